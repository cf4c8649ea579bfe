import Derived.Test.YtlpopfhaephfaabGreatDoorW3
import Derived.BigRegion
import Derived.BigQuiet
import Derived.Deep.QuietTactic
import Derived.Deep.RegionWith
import Derived.Test.YtlpopfhaephfaabGreatDoorMkL
import Derived.Test.YtlpopfhaephfaabGreatDoorQS
import Derived.ProofKit
import Derived.Deep.DeepCutAuto
import Derived.Lib.QuietBelow
import Derived.Deep.Cut
import Derived.Test.YtlpopfhaephfaabGreatDoorQB
import Derived.Lib.LaidTab
import Derived.LaidLaws
import Derived.Stop.LaidErr
import Derived.Test.YtlpopfhaephfaabGreatDoorRows
import Derived.Test.YtlpopfhaephfaabGreatDoorW1
import Derived.Lib.SmallJoins
import Derived.Deep.SlicePairs
import Derived.Test.YtlpopfhaephfaabGreatDoorCards
import Derived.Test.YtlpopfhaephfaabGreatDoorTie
import Derived.ChangeSame
import Derived.ChangeVars
import Derived.OpenVars
import Derived.ChangeMaps5
import Derived.JoinedOf
import Derived.RowKitTokens
import Derived.LaidHandle
import Derived.Stop.Joined
import Derived.SevenTiedAt
import Derived.WalkSmall
import Derived.HandedShaped
import Derived.Shelf.Vars
import Derived.Deep.DeepLaidRun
namespace Go.Proofs.YtlpopfhaephfaabGreatDoor
open Go.RowKit

def eq2 (x y x' y' : Int) : Bool := decide (x = x') && decide (y = y')

set_option maxHeartbeats 400000 in
theorem eqCounter_any (x y x' y' : Int) (w : World) :
    Calls Tryz.prog 35 #[.agg #[.int .i64 x, .int .i64 y], .agg #[.int .i64 x', .int .i64 y']] w fun e w' => e = .returned (.bool (eq2 x y x' y')) ∧ Below w.heap.size w w' := by
  rcases (show (¬ x = x') ∨ (x' = x ∧ ¬ y = y') ∨ (x' = x ∧ y' = y) by omega) with h | ⟨rfl, h⟩ | ⟨rfl, rfl⟩
  · have e1 : eq2 x y x' y' = false := by simp [eq2, h]
    have h' : (x != x') = true := by simp [h]
    rw [e1]; clear e1 h
    go_enter Tryz.func35, Tryz.ntmps35
    go_wp2
    go_ret
    exact ⟨rfl, (by repeat (first | exact Below.refl _ _ | assumption | refine below_alloc ?_ _ | refine Below.setCell ?_ (by first | omega | (simp; done) | (simp; omega)) _ | refine Below.alloc ?_ (by first | omega | (simp; done) | (simp; omega)) _ | refine Below.drew ?_))⟩
  · have e1 : eq2 x' y x' y' = false := by simp [eq2, h]
    have h' : (y != y') = true := by simp [h]
    rw [e1]; clear e1 h
    go_enter Tryz.func35, Tryz.ntmps35
    go_wp2
    go_ret
    exact ⟨rfl, (by repeat (first | exact Below.refl _ _ | assumption | refine below_alloc ?_ _ | refine Below.setCell ?_ (by first | omega | (simp; done) | (simp; omega)) _ | refine Below.alloc ?_ (by first | omega | (simp; done) | (simp; omega)) _ | refine Below.drew ?_))⟩
  · have e1 : eq2 x' y' x' y' = true := by simp [eq2]
    rw [e1]; clear e1
    go_enter Tryz.func35, Tryz.ntmps35
    go_wp2
    go_ret
    exact ⟨rfl, (by repeat (first | exact Below.refl _ _ | assumption | refine below_alloc ?_ _ | refine Below.setCell ?_ (by first | omega | (simp; done) | (simp; omega)) _ | refine Below.alloc ?_ (by first | omega | (simp; done) | (simp; omega)) _ | refine Below.drew ?_))⟩

def eqZ (n n' : Nat) (F T F' T' : Nat → Int) : Bool := decide (n = n') && (List.range n).all (fun i => eq2 (F i) (T i) (F' i) (T' i))

theorem eqZ_false {n : Nat} {F T F' T' : Nat → Int} {k : Nat} (hk : k < n) (h : eq2 (F k) (T k) (F' k) (T' k) = false) : eqZ n n F T F' T' = false := by
  unfold eqZ
  have : ((List.range n).all fun i => eq2 (F i) (T i) (F' i) (T' i)) = false := List.all_eq_false.2 ⟨k, List.mem_range.2 hk, by simp [h]⟩
  simp [this]
theorem eqZ_true {n n' : Nat} {F T F' T' : Nat → Int} (hn : n = n') (h : ∀ i, i < n → eq2 (F i) (T i) (F' i) (T' i) = true) : eqZ n n' F T F' T' = true := by
  subst hn
  unfold eqZ
  have : ((List.range n).all fun i => eq2 (F i) (T i) (F' i) (T' i)) = true := List.all_eq_true.2 fun i hi => h i (List.mem_range.1 hi)
  rw [this]; simp
theorem eqZ_refl (n : Nat) (F T : Nat → Int) : eqZ n n F T F T = true := eqZ_true rfl fun _ _ => by simp [eq2]
theorem eq_succ {F T F' T' : Nat → Int} {k : Nat} (h : ∀ i, i < k → eq2 (F i) (T i) (F' i) (T' i) = true) (hk : eq2 (F k) (T k) (F' k) (T' k) = true) : ∀ i, i < k + 1 → eq2 (F i) (T i) (F' i) (T' i) = true := by
  intro i hi
  rcases (show i < k ∨ i = k by omega) with h' | rfl
  · exact h i h'
  · exact hk

set_option maxHeartbeats 1000000 in
theorem eqCounterS_any (g g' n n' : Nat) (F T F' T' : Nat → Int) (w : World) (hrow : Row w g 71 2 n (two F T)) (hrow' : Row w g' 71 2 n' (two F' T')) (hn : n ≤ 1048576) (hn' : n' ≤ 1048576) :
    Calls Tryz.prog 20 #[.slice (some ⟨g, 0, none⟩) n n, .slice (some ⟨g', 0, none⟩) n' n'] w fun e w' => e = .returned (.bool (eqZ n n' F T F' T')) ∧ Below w.heap.size w w' := by
  have hg := hrow.lt
  have hg' := hrow'.lt
  by_cases h : n = n'
  · subst h
    go_enter Tryz.func20, Tryz.ntmps20
    go_wp2
    go_loopw [5] (fun i wr => ∃ k : Nat, k ≤ n ∧ i = .int .i64 k ∧ Below w.heap.size w wr ∧ ∀ i, i < k → eq2 (F i) (T i) (F' i) (T' i) = true) (fun i _ => n - (intOf i).toNat)
    case atStart => exact ⟨0, Nat.zero_le _, rfl, Below.refl _ _, fun i hi => by omega⟩
    case round =>
      obtain ⟨k, hk, rfl, hbel, hgood⟩ := hrel
      have HG : Hid (∀ i, i < k → eq2 (F i) (T i) (F' i) (T' i) = true) := hgood
      have HB : Hid (Below w.heap.size w wr) := hbel
      clear hgood
      by_cases hlt : k < n
      · have R := hrow.below hbel hg
        have R' := hrow'.below hbel hg'
        have c0 : wr.cell? ⟨g, k * 2, none⟩ = some (.int .i64 (F k)) := R.cell0 hlt (by omega)
        have c1 : wr.cell? ⟨g, k * 2 + 1, none⟩ = some (.int .i64 (T k)) := R.cell (j := 1) hlt (by omega)
        have c0' : wr.cell? ⟨g', k * 2, none⟩ = some (.int .i64 (F' k)) := R'.cell0 hlt (by omega)
        have c1' : wr.cell? ⟨g', k * 2 + 1, none⟩ = some (.int .i64 (T' k)) := R'.cell (j := 1) hlt (by omega)
        have hi : (k : Int) < (n : Int) := by omega
        clear R R' hbel hrow hrow'
        cases hq : eq2 (F k) (T k) (F' k) (T' k)
        · have HQ : Hid (eqZ n n F T F' T' = false) := eqZ_false hlt hq
          go_wp2
          go_region_with (go_at_call 35; refine (eqCounter_any _ _ _ _ _).mono ?_; rw [hq]; rintro e w1 ⟨rfl, hb1⟩)
          all_goals
            go_wp2
            go_ret
            exact ⟨by rw [HQ.out]; rfl, HB.out.drew.trans (hb1.mono (by simpa using HB.out.size))⟩
        · go_wp2
          go_region_with (go_at_call 35; refine (eqCounter_any _ _ _ _ _).mono ?_; rw [hq]; rintro e w1 ⟨rfl, hb1⟩)
          all_goals
            go_wp2
            go_roundw
            case rel => exact ⟨k + 1, by omega, by go_num, HB.out.drew.trans (hb1.mono (by simpa using HB.out.size)), eq_succ HG.out hq⟩
            case measure => simp [intOf]; omega
      · have HQ : Hid (eqZ n n F T F' T' = true) := eqZ_true rfl (fun i hi => HG.out i (by omega))
        go_wp2
        go_ret
        exact ⟨by rw [HQ.out]; rfl, HB.out⟩
  · have e1 : eqZ n n' F T F' T' = false := by simp [eqZ, h]
    have h' : ((n : Int) != (n' : Int)) = true := by simp; omega
    rw [e1]; clear e1 h
    go_enter Tryz.func20, Tryz.ntmps20
    go_wp2
    go_ret
    exact ⟨rfl, (by repeat (first | exact Below.refl _ _ | assumption | refine below_alloc ?_ _ | refine Below.setCell ?_ (by first | omega | (simp; done) | (simp; omega)) _ | refine Below.alloc ?_ (by first | omega | (simp; done) | (simp; omega)) _ | refine Below.drew ?_))⟩

/-- eqLayout at two layouts that hold the same. -/
theorem eqLayout_same (S : Int) (g g' n : Nat) (F T : Nat → Int) (w : World) (hrow : Row w g 71 2 n (two F T)) (hrow' : Row w g' 71 2 n (two F T)) (hn : n ≤ 1048576) :
    Calls Tryz.prog 8 #[.agg #[.int .i64 S, .slice (some ⟨g, 0, none⟩) n n], .agg #[.int .i64 S, .slice (some ⟨g', 0, none⟩) n n]] w fun e w' => e = .returned (.bool true) ∧ Below w.heap.size w w' := by
  have hc : ∀ o o', Calls Tryz.prog 20 #[.slice (some ⟨g, 0, none⟩) n n, .slice (some ⟨g', 0, none⟩) n n] ((w.alloc o).alloc o') fun e w' => e = .returned (.bool true) ∧ Below ((w.alloc o).alloc o').heap.size ((w.alloc o).alloc o') w' := fun o o' => by
    have := eqCounterS_any g g' n n F T F T _ ((hrow.alloc o).alloc o') ((hrow'.alloc o).alloc o') hn hn
    rw [eqZ_refl] at this; exact this
  clear hrow hrow'
  go_enter Tryz.func8, Tryz.ntmps8
  go_wp2_with (first | (go_at_call 20; refine (hc _ _).mono ?_; rintro e w1 ⟨rfl, hb1⟩))
  go_ret
  exact ⟨rfl, (show Below w.heap.size w _ from (by repeat (first | exact Below.refl _ _ | assumption | refine below_alloc ?_ _ | refine Below.setCell ?_ (by first | omega | (simp; done) | (simp; omega)) _ | refine Below.alloc ?_ (by first | omega | (simp; done) | (simp; omega)) _ | refine Below.drew ?_))).trans (hb1.mono (by first | omega | (simp; done) | (simp; omega)))⟩

end Go.Proofs.YtlpopfhaephfaabGreatDoor

namespace Go.Proofs.YtlpopfhaephfaabGreatDoor
open Go.RowKit

theorem ans_long (S : Int) (ao : Option Addr) (n cap : Nat) (t : List UInt8) (w : World) (ht : (1048576 : Int) < (t.length : Int)) :
    Calls Tryz.prog 3 #[.agg #[.int .i64 S, .slice ao n cap], .string ⟨t.toArray⟩] w fun e w' => e = .returned (.bool true) ∧ Below w.heap.size w w' := by
  go_enter Tryz.func3, Tryz.ntmps3
  go_wp2
  go_ret
  exact ⟨rfl, (by repeat (first | exact Below.refl _ _ | assumption | refine below_alloc ?_ _ | refine Below.setCell ?_ (by first | omega | (simp; done) | (simp; omega)) _ | refine Below.alloc ?_ (by first | omega | (simp; done) | (simp; omega)) _ | refine Below.drew ?_))⟩

theorem ans_great (S : Int) (ao : Option Addr) (n cap : Nat) (t : List UInt8) (w : World) (hl : n ≤ maxLen) (ht : ¬ (1048576 : Int) < (t.length : Int)) (hn : ¬ (n : Int) ≤ 1048576) :
    Calls Tryz.prog 3 #[.agg #[.int .i64 S, .slice ao n cap], .string ⟨t.toArray⟩] w fun e w' => e = .returned (.bool true) ∧ Below w.heap.size w w' := by
  go_enter Tryz.func3, Tryz.ntmps3
  go_wp2_with (first | (go_at_call 4; refine (szLayout_any _ _ _ _ _ hl).mono ?_; rw [if_neg hn]; rintro e w1 ⟨rfl, hb1⟩))
  go_ret
  exact ⟨rfl, (show Below w.heap.size w _ from (by repeat (first | exact Below.refl _ _ | assumption | refine below_alloc ?_ _ | refine Below.setCell ?_ (by first | omega | (simp; done) | (simp; omega)) _ | refine Below.alloc ?_ (by first | omega | (simp; done) | (simp; omega)) _ | refine Below.drew ?_))).trans (hb1.mono (by first | omega | (simp; done) | (simp; omega)))⟩

set_option maxHeartbeats 2000000 in
theorem ans_small (S : Int) (ao : Option Addr) (n cap : Nat) (F T : Nat → Int) (t : List UInt8) (w : World) (ht : ¬ (1048576 : Int) < (t.length : Int)) (hn : (n : Int) ≤ 1048576) (h : Came w ao n F T) (hla : LayR w) (D : ByteArray)
    (cS : ∀ g W, Row W g 71 2 n (two F T) → Calls Tryz.prog 5 #[.agg #[.int .i64 S, .slice (some ⟨g, 0, none⟩) n n], .string ⟨t.toArray⟩] W fun e w' => e = .returned (.string D) ∧ Below W.heap.size W w')
    (cI : ∀ g W, Row W g 71 2 n (two F T) → LayR W → Calls Tryz.prog 7 #[.agg #[.int .i64 S, .slice (some ⟨g, 0, none⟩) n n], .string ⟨t.toArray⟩] W fun e w' => e = .returned (.string D) ∧ Below W.heap.size W w') :
    Calls Tryz.prog 3 #[.agg #[.int .i64 S, .slice ao n cap], .string ⟨t.toArray⟩] w fun e w' => e = .returned (.bool true) ∧ Below w.heap.size w w' := by
  have hn' : n ≤ 1048576 := by omega
  have hl : n ≤ maxLen := by unfold maxLen; omega
  obtain ⟨A, eA⟩ : ∃ A, w.alloc (.cells #[.int .i64 S, .slice ao n cap] 24) = A := ⟨_, rfl⟩
  have b0 : Below w.heap.size w A := by rw [← eA]; exact (by repeat (first | exact Below.refl _ _ | assumption | refine below_alloc ?_ _ | refine Below.setCell ?_ (by first | omega | (simp; done) | (simp; omega)) _ | refine Below.alloc ?_ (by first | omega | (simp; done) | (simp; omega)) _ | refine Below.drew ?_))
  have bL : Blk A w.heap.size 24 2 (fun i => if i = 0 then .int .i64 S else .slice ao n cap) := by
    rw [← eA]
    exact Blk.new w #[.int .i64 S, .slice ao n cap] 24 _ (fun i hi => by simp at hi; match i, hi with | 0, _ => rfl | 1, _ => rfl)
  have hA : ∀ W, Below A.heap.size A W → Came W ao n F T ∧ W.cell? ⟨w.heap.size, 0, none⟩ = some (.int .i64 S) ∧ W.cell? ⟨w.heap.size, 1, none⟩ = some (.slice ao n cap) := fun W hb =>
    ⟨h.below (below_on b0 hb), (bL.on hb).cell (i := 0) (by omega), (bL.on hb).cell (i := 1) (by omega)⟩
  have EA : Hid _ := eA
  have HA : Hid (LayR w) := hla
  clear h eA bL hla
  go_enter Tryz.func3, Tryz.ntmps3
  go_wp2_with fail
  rw [EA.out]
  refine (szLayout_any _ _ _ _ _ hl).mono ?_
  rw [if_pos hn]
  rintro e w1 ⟨rfl, B1⟩
  obtain ⟨mL, i0, i1⟩ := hA _ B1
  go_wp2_with fail
  refine (toLayout_any _ _ _ _ F T _ hn' mL).mono ?_
  rintro e w3 ⟨g3, rfl, hg3, r3, hb3⟩
  have B3 := below_on B1 hb3
  clear B1 hb3 mL i0 i1
  go_wp2_with fail
  refine (cS _ _ r3).mono ?_
  rintro e w5 ⟨rfl, hb5⟩
  have B5 := below_on B3 hb5
  clear B3 hb5 r3
  obtain ⟨mL, i0, i1⟩ := hA _ B5
  go_wp2_with fail
  refine (toLayout_any _ _ _ _ F T _ hn' mL).mono ?_
  rintro e w6 ⟨g6, rfl, hg6, r6, hb6⟩
  have B6 := below_alloc (below_on B5 hb6) (.cells #[.int .i64 S, .slice (some ⟨g6, 0, none⟩) n n] 29)
  have r6' := r6.alloc (.cells #[.int .i64 S, .slice (some ⟨g6, 0, none⟩) n n] 29)
  have l6 : Blk (w6.alloc (.cells #[.int .i64 S, .slice (some ⟨g6, 0, none⟩) n n] 29)) w6.heap.size 29 2 (fun i => if i = 0 then .int .i64 S else .slice (some ⟨g6, 0, none⟩) n n) := Blk.new w6 #[.int .i64 S, .slice (some ⟨g6, 0, none⟩) n n] 29 _ (fun i hi => by simp at hi; match i, hi with | 0, _ => rfl | 1, _ => rfl)
  obtain ⟨wb, eb⟩ : ∃ wb, w6.alloc (.cells #[.int .i64 S, .slice (some ⟨g6, 0, none⟩) n n] 29) = wb := ⟨_, rfl⟩
  rw [eb] at B6 r6' l6
  have EB : Hid _ := eb
  clear B5 hb6 r6 mL i0 i1 eb
  go_wp2_with fail
  rw [EB.out]
  refine (cI _ _ r6' (HA.out.on (below_on b0 B6))).mono ?_
  rintro e w8 ⟨rfl, hb8⟩
  have B8 := below_on B6 hb8
  have r8 := r6'.on hb8
  have l8 := l6.on hb8
  clear B6 hb8 r6' l6 EB
  have hA0 := fun W (hb : Below w8.heap.size w8 W) => hA W (below_on B8 hb)
  go_upto_region 12 with fail
  go_cut [33] from 29 (fun q wc => q = .bool false ∧ Below w8.heap.size w8 wc)
  case first =>
    have Bc : Below w8.heap.size w8 w8.drew := (Below.refl _ _).drew
    obtain ⟨mL, i0, i1⟩ := hA0 _ Bc
    have lB := l8.on Bc
    have rL := r8.on Bc
    have q0 := lB.cell (i := 0) (by omega)
    have q1 := lB.cell (i := 1) (by omega)
    simp only [Nat.one_ne_zero, if_false, if_true] at q0 q1
    go_region_with (first
      | (go_at_call 6; refine (toLayout_any _ _ _ _ F T _ hn' mL).mono ?_; rintro e wL ⟨gL, rfl, hgL, rN, hbL⟩; have Bc := below_on Bc hbL; have lB := lB.on hbL; have q0 := lB.cell (i := 0) (by omega); have q1 := lB.cell (i := 1) (by omega); have rL := rL.on hbL)
      | (go_at_call 8; refine (eqLayout_same _ _ _ _ F T _ rL rN hn').mono ?_; rintro e w9' ⟨rfl, hb9⟩; have Bc := below_on Bc hb9))
    all_goals
      go_wp2_with fail
      go_meet
      case rel => exact ⟨rfl, Bc⟩
  case rest =>
    obtain ⟨rfl, hb14⟩ := hcut
    rename World => w14
    have B14 := below_on b0 (below_on B8 hb14)
    clear B8 r8 l8 hb14 hA0
    go_wp2
    go_ret
    exact ⟨rfl, B14⟩

end Go.Proofs.YtlpopfhaephfaabGreatDoor

namespace Go.Proofs.YtlpopfhaephfaabGreatDoor
open Go.RowKit

set_option maxRecDepth 100000 in
set_option maxHeartbeats 4000000 in
theorem implAnswer_any (S : Int) (g n : Nat) (F T : Nat → Int) (t : List UInt8) (w : World) (hrow : Row w g 71 2 n (two F T)) (hL : LayR w) (hlen : t.length ≤ 1048576) :
    Calls Tryz.prog 7 #[.agg #[.int .i64 S, .slice (some ⟨g, 0, none⟩) n n], .string ⟨t.toArray⟩] w fun e w' => e = .returned (.string ⟨(ansZ S n F T t).toArray⟩) ∧ Below w.heap.size w w' := by
  obtain ⟨R, hR⟩ : ∃ R, rdZ S n F T t = R := ⟨_, rfl⟩
  have hrng := rdZ_rng S n F T t
  have hans : ansZ S n F T t = if R.1 = 0 then ansL (runC S n F T (evL R.2.2)) (fun k => runX S n F T (evL R.2.2) (k + 1)) S.toNat R.2.2.length else wrongB R.1 R.2.1 := by unfold ansZ; rw [hR]
  rw [hR] at hrng
  rw [hans]
  clear hans
  obtain ⟨W0, eW⟩ : ∃ W0, w.alloc (.cells #[.int .i64 S, .slice (some ⟨g, 0, none⟩) n n] 29) = W0 := ⟨_, rfl⟩
  have bW : Below w.heap.size w W0 := by rw [← eW]; exact (by repeat (first | exact Below.refl _ _ | assumption | refine below_alloc ?_ _ | refine Below.setCell ?_ (by first | omega | (simp; done) | (simp; omega)) _ | refine Below.alloc ?_ (by first | omega | (simp; done) | (simp; omega)) _ | refine Below.drew ?_))
  have hP : ∀ W, Below W0.heap.size W0 W → (W.cell? ⟨w.heap.size, 0, none⟩ = some (.int .i64 S) ∧ W.cell? ⟨w.heap.size, 1, none⟩ = some (.slice (some ⟨g, 0, none⟩) n n)) ∧ Row W g 71 2 n (two F T) := by
    have c0 : W0.cell? ⟨w.heap.size, 0, none⟩ = some (.int .i64 S) := by rw [← eW]; simp
    have c1 : W0.cell? ⟨w.heap.size, 1, none⟩ = some (.slice (some ⟨g, 0, none⟩) n n) := by rw [← eW]; simp
    exact fun W hb => ⟨⟨by rw [hb.cell (block_lt_of_cell c0)]; exact c0, by rw [hb.cell (block_lt_of_cell c1)]; exact c1⟩, hrow.on (below_on bW hb)⟩
  have lw0 : w.heap.size < W0.heap.size := by rw [← eW]; simp
  have kr := implRead_any S g n F T t W0 (hrow.on bW) (hL.on bW) hlen
  have lL := hL.on bW
  rw [hR] at kr
  obtain ⟨A, B, l⟩ := R
  simp only at hrng ⊢
  obtain ⟨⟨hA0, hA3⟩, hB, hl2, hlk⟩ := hrng
  obtain ⟨RES, hRES⟩ : ∃ RES, (if A = 0 then ansL (runC S n F T (evL l)) (fun k => runX S n F T (evL l) (k + 1)) S.toNat l.length else wrongB A B) = RES := ⟨_, rfl⟩
  rw [hRES]
  have HRES : Hid _ := hRES
  clear hRES
  have EW : Hid _ := eW
  have HP : Hid _ := hP
  clear eW hP hrow hR
  go_enter Tryz.func7, Tryz.ntmps7
  go_wp2_with fail
  rw [EW.out]
  refine kr.mono ?_
  clear kr EW
  rintro e w1 hsc
  obtain ⟨a1, c1, rfl, hs, b1⟩ := scp_out hsc
  clear hsc
  have hx := Box3.lay w1 (.int .i64 A) (.int .i64 (B : Int)) (.slice a1 l.length c1) 36
  have b1' := below_alloc b1 (.cells #[.int .i64 A, .int .i64 (B : Int), .slice a1 l.length c1] 36)
  have hs1 := hs.alloc (.cells #[.int .i64 A, .int .i64 (B : Int), .slice a1 l.length c1] 36)
  obtain ⟨W1, eW1⟩ : ∃ W1, w1.alloc (.cells #[.int .i64 A, .int .i64 (B : Int), .slice a1 l.length c1] 36) = W1 := ⟨_, rfl⟩
  obtain ⟨hb, ehb⟩ : ∃ hb, w1.heap.size = hb := ⟨_, rfl⟩
  rw [eW1] at hx b1' hs1
  rw [ehb] at hx
  have EW1 : Hid _ := eW1
  have EHB : Hid _ := ehb
  have bF := below_on bW b1'
  have lhb : w.heap.size < hb := by have := b1.size; omega
  have sW1 : W1.heap.size = hb + 1 := by rw [← eW1, ← ehb]; simp
  clear eW1 ehb b1 hs bW
  by_cases hA : A = 0
  · subst hA
    have hl := hlk rfl
    have HR2 : Hid (ansL (runC S n F T (evL l)) (fun k => runX S n F T (evL l) (k + 1)) S.toNat l.length = RES) := by have := HRES.out; rwa [if_pos rfl] at this
    clear hlk HRES hA0 hA3
    obtain ⟨r1, r2, r3⟩ := lok_range hl
    have hns : S.toNat ≤ 60 := by omega
    have hSn : ((S.toNat : Nat) : Int) = S := by omega
    have I0 := Lib.IsBuilderF.of (Lib.fresh_isBuilder 54 5 W1)
    have bB : Below W1.heap.size W1 (W1.alloc (.cells #[.pointer none, .slice none 0 0] 54)) := below_alloc (Below.refl _ _) _
    obtain ⟨V, eV⟩ : ∃ V, W1.alloc (.cells #[.pointer none, .slice none 0 0] 54) = V := ⟨_, rfl⟩
    rw [eV] at I0 bB
    obtain ⟨⟨x0, x1⟩, hrw⟩ := HP.out V (below_on b1' bB)
    obtain ⟨y0, y1, y2⟩ := (hx.on bB).cells
    have kr := implRun_ok S g n _ _ l.length S.toNat F T (evL l) _ V hrw (hs1.on bB) hl hSn hl2
    have EV : Hid _ := eV
    clear eV
    go_upto_region 5 with fail
    rw [EW1.out, EHB.out, EV.out]
    go_wp2_with fail
    refine kr.mono ?_
    clear kr EW1 EHB
    rintro e w2 ⟨u, rfl, dn, b2⟩
    have lbb : w.heap.size ≤ hb + 1 := by omega
    obtain ⟨bb, ebb⟩ : ∃ bb, hb + 1 = bb := ⟨_, rfl⟩
    rw [sW1] at I0
    rw [ebb] at I0 lbb ⊢
    have I2 := builder_on I0 b2
    have hbb : w.heap.size ≤ bb := lbb
    have F2 := below_on bF (below_on bB b2)
    obtain ⟨C, eC⟩ : ∃ C, runC S n F T (evL l) = C := ⟨_, rfl⟩
    obtain ⟨X, eX⟩ : ∃ X, (fun k => runX S n F T (evL l) (k + 1)) = X := ⟨_, rfl⟩
    have hCr : ∀ k, 0 ≤ C k ∧ C k ≤ 1000000 := fun k => by rw [← eC]; exact code_rng S n F T (evL l) k
    have hXr : ∀ k i, 0 ≤ (X k i).told ∧ (X k i).told ≤ 3 := fun k i => by rw [← eX]; exact told_rng S n F T (evL l) k i
    rw [eC, eX] at dn
    obtain ⟨ns, ens⟩ : ∃ ns, S.toNat = ns := ⟨_, rfl⟩
    rw [ens] at dn hns
    have HH : Hid (runC S n F T (evL l) = C ∧ (fun k => runX S n F T (evL l) (k + 1)) = X ∧ S.toNat = ns) := ⟨eC, eX, ens⟩
    obtain ⟨ua, uc, eu⟩ := dnSl dn
    subst eu
    have HLR : Hid (∀ W, Below w.heap.size w W → Lay W) := fun W hb => (hL.on hb).toLay
    have zbb : bb ≤ w2.heap.size := Nat.le_of_lt (builder_lt I2)
    clear eC eX ens I0 b2 bB ebb EV x0 x1 hrw y0 y1 y2 hx b1' hs1 lL HP bF hL sW1 lbb lhb
    go_wp2
    go_loopw [30] (fun i wr => ∃ k : Nat, k ≤ l.length ∧ i = .int .i64 k ∧ Lib.IsBuilderF 54 5 bb bb (Lib.byteCells (ansL C X ns k)) wr ∧ DnF wr V.heap.size w2.heap.size (.slice ua l.length uc) l.length ns n C (fun _ => true) X (fun k => runD S n F T (evL l) (k + 1)) ∧ Below w.heap.size w wr ∧ bb ≤ wr.heap.size) (fun i _ => l.length - (intOf i).toNat)
    case atStart => exact ⟨0, Nat.zero_le _, rfl, I2, dn, F2, zbb⟩
    case round =>
      clear I2 dn F2 zbb
      obtain ⟨k, hk, rfl, hI, dn, Bw, zw⟩ := hrel
      by_cases hlt : k < l.length
      · have hi1 : (k : Int) < (l.length : Int) := by omega
        obtain ⟨gd, cd, sa, sc, da, dc, ed, ⟨c0, c1', c2', c3'⟩, hse⟩ := dnAt2 dn hlt
        cases ed
        obtain ⟨Ck, eCk⟩ : ∃ x, C k = x := ⟨_, rfl⟩
        obtain ⟨Xk, eXk⟩ : ∃ x, X k = x := ⟨_, rfl⟩
        have hCk := hCr k
        have hXk := hXr k
        have hdl := doneB_length (C k) (X k) ns hCk.1 hCk.2 hns
        have hal := ansL_length C X ns hCr hns k
        have en : ansL C X ns (k + 1) = ansL C X ns k ++ (doneB (C k) (X k) ns ++ [10]) := rfl
        rw [eCk, eXk] at en hdl
        rw [eCk] at c0 hCk
        rw [eXk] at hse hXk
        have bA := below_alloc (Below.refl wr.heap.size wr) (.cells #[.int .i64 Ck, .bool true, .slice sa ns sc, .slice da n dc] 48)
        have kd := doneLine_any Ck true 0 _ ns n sc dc sa da Xk (wr.alloc (.cells #[.int .i64 Ck, .bool true, .slice sa ns sc, .slice da n dc] 48)) hCk hns (fun i _ => hXk i) (hse.on bA) bA.size (HLR.out _ (below_on Bw bA))
        obtain ⟨D, eD⟩ : ∃ D, doneB Ck Xk ns ++ [10] = D := ⟨_, rfl⟩
        have lD : D.length ≤ 83 := by rw [← eD]; simp; omega
        rw [eD] at kd en
        obtain ⟨Z, eZ⟩ : ∃ Z, ansL C X ns k = Z := ⟨_, rfl⟩
        rw [eZ] at hI en hal
        have EN : Hid _ := en
        have hI1 := builder_on hI bA
        have dn1 := dn.on bA
        have B1 := below_on Bw bA
        clear eD eZ en eCk eXk hse hI dn Bw hdl
        go_wp2_with fail
        refine kd.mono ?_
        clear kd
        rintro e w4 ⟨rfl, b4⟩
        have hI4 := builder_on hI1 b4
        have dn4 := dn1.on b4
        have B4 := below_on B1 b4
        have z4 : bb ≤ w4.heap.size := Nat.le_of_lt (builder_lt hI4)
        clear hI1 dn1 B1 b4 bA c0 c1' c2' c3'
        go_wp2_with fail
        refine (writeString_k _ _ _ _ _ hI4 (by rw [str_size, Lib.byteCells_length]; omega) z4).mono ?_
        rintro e w6 ⟨vv, rfl, hI6, hb6, hk6⟩
        have dn6 := dnf_kept dn4 hk6 hI4
        have B6 : Below w.heap.size w w6 := B4.trans (hb6.mono hbb)
        have hI7 : Lib.IsBuilderF 54 5 bb bb (Lib.byteCells (ansL C X ns (k + 1))) w6 := by
          rw [EN.out]
          have : Lib.byteCells (Z ++ D) = Lib.byteCells Z ++ Lib.strCells ⟨D.toArray⟩ := by simp [Lib.byteCells, Lib.strCells]
          rw [this]
          exact hI6
        have z6 : bb ≤ w6.heap.size := Nat.le_trans z4 hb6.size
        clear hb6 hI6 hI4 hk6 dn4 B4
        go_wp2
        exact ⟨⟨k + 1, hlt, by simp, hI7, dn6, B6, z6⟩, by simp [intOf]; omega⟩
      · have hi1 : ¬ (k : Int) < (l.length : Int) := by omega
        obtain rfl : k = l.length := by omega
        have kS := Tryz.Builder_String_any_k _ _ _ _ hI zw
        clear dn
        go_wp2_with fail
        refine kS.mono ?_
        clear kS
        rintro e w7 ⟨rfl, _, hb7, _⟩
        have FIN : Below w.heap.size w w7 := Bw.trans (hb7.mono hbb)
        go_wp2
        go_ret
        exact ⟨by rw [← HR2.out, HH.out.1, HH.out.2.1, HH.out.2.2]; try rfl, FIN⟩
  · obtain ⟨na, hna⟩ : ∃ x, Lib.itoa A = x := ⟨_, rfl⟩
    obtain ⟨nb, hnb⟩ : ∃ x, Lib.itoa (B : Int) = x := ⟨_, rfl⟩
    have la : na.length ≤ 21 := by rw [← hna]; exact Lib.itoa_length_le A (by omega) (by omega)
    have lb : nb.length ≤ 21 := by rw [← hnb]; exact Lib.itoa_length_le _ (by omega) (by omega)
    obtain ⟨s1, hs1'⟩ : ∃ x, [119, 114, 111, 110, 103, 32] ++ na = x := ⟨_, rfl⟩
    obtain ⟨s2, hs2⟩ : ∃ x, s1 ++ [32] = x := ⟨_, rfl⟩
    obtain ⟨s3, hs3⟩ : ∃ x, s2 ++ nb = x := ⟨_, rfl⟩
    obtain ⟨s4, hs4⟩ : ∃ x, s3 ++ [10] = x := ⟨_, rfl⟩
    have e4 : wrongB A B = s4 := by rw [← hs4, ← hs3, ← hs2, ← hs1', ← hna, ← hnb]; rfl
    have l1 : s1.length ≤ 30 := by rw [← hs1']; simp; omega
    have l2 : s2.length ≤ 31 := by rw [← hs2]; simp; omega
    have l3 : s3.length ≤ 60 := by rw [← hs3]; simp; omega
    have ad1 : ∀ Y : World, (Op.stringOp .add ⟨#[119, 114, 111, 110, 103, 32]⟩ ⟨na.toArray⟩).run Tryz.prog Y = .ok (.string ⟨s1.toArray⟩) Y := fun Y => by rw [← hs1']; exact run_string_add_lists Y [119, 114, 111, 110, 103, 32] na (by simp) (by omega)
    have ad2 : ∀ Y : World, (Op.stringOp .add ⟨s1.toArray⟩ ⟨#[32]⟩).run Tryz.prog Y = .ok (.string ⟨s2.toArray⟩) Y := fun Y => by rw [← hs2]; exact run_string_add_lists Y s1 [32] (by omega) (by simp)
    have ad3 : ∀ Y : World, (Op.stringOp .add ⟨s2.toArray⟩ ⟨nb.toArray⟩).run Tryz.prog Y = .ok (.string ⟨s3.toArray⟩) Y := fun Y => by rw [← hs3]; exact run_string_add_lists Y s2 nb (by omega) (by omega)
    have ad4 : ∀ Y : World, (Op.stringOp .add ⟨s3.toArray⟩ ⟨#[10]⟩).run Tryz.prog Y = .ok (.string ⟨s4.toArray⟩) Y := fun Y => by rw [← hs4]; exact run_string_add_lists Y s3 [10] (by omega) (by simp)
    have kca := fun dd os => Calls.regrown_of ((Tryz.strconv_Itoa A (by omega) (by omega) (Sort.grow (redrawn W1 dd) os) ((lL.on b1').on (below_regrown W1 dd os)).pow).mono fun e w' ⟨h1, k, os', h2⟩ => ⟨h1, show Below (Sort.grow (redrawn W1 dd) os).heap.size (Sort.grow (redrawn W1 dd) os) w' by rw [h2]; exact Lib.below_grow _ _ (Nat.le_refl _) _ _⟩)
    have kcb := fun dd os => Calls.regrown_of ((Tryz.strconv_Itoa (B : Int) (by omega) (by omega) (Sort.grow (redrawn W1 dd) os) ((lL.on b1').on (below_regrown W1 dd os)).pow).mono fun e w' ⟨h1, k, os', h2⟩ => ⟨h1, show Below (Sort.grow (redrawn W1 dd) os).heap.size (Sort.grow (redrawn W1 dd) os) w' by rw [h2]; exact Lib.below_grow _ _ (Nat.le_refl _) _ _⟩)
    rw [hna] at kca
    rw [hnb] at kcb
    obtain ⟨x0, x1, x2⟩ := hx.cells
    have k0 := cell_regrown x0
    have k1 := cell_regrown x1
    have E4 : Hid _ := e4
    clear hna hnb hs1' hs2 hs3 hs4 e4
    go_upto_region 3 with fail
    rw [EW1.out, EHB.out]
    refine wp_region_quiet_below (by kernel_rfl) (by kernel_rfl) ?_
    repeat (go_big_quiet_step (first | with_reducible exact kca _ _ | with_reducible exact kcb _ _))
    refine wpQuiet_nil ?_
    intro _ hw'
    obtain ⟨⟨dq, osq⟩, hw''⟩ := hw'
    have hBq := below_on bF (below_regrown W1 dq osq)
    subst hw''
    clear kca kcb k0 k1 x0 x1 x2
    generalize Sort.grow (redrawn W1 dq) osq = wq at *
    go_wp2
    go_ret
    exact ⟨by rw [← HRES.out, if_neg hA, E4.out]; try rfl, hBq⟩

end Go.Proofs.YtlpopfhaephfaabGreatDoor

namespace Go.Proofs.YtlpopfhaephfaabGreatDoor
open Go.RowKit

/-- A slice of bytes that the call owns, as a string. -/
theorem convO {w : World} {B : Nat} {q : Value} {l : List UInt8} (h : w.ownsRow B 5 1 q l.length (Lib.byteCells l)) :
    (convert 40 9 q).run Tryz.prog w = .ok (.string ⟨l.toArray⟩) w := by
  have hc := fun g hg => h.cells (g := g) hg
  rcases h.2 with ⟨rfl, h0⟩ | ⟨g, cap, cur, rfl, _⟩
  · have : l = [] := List.length_eq_zero_iff.1 h0
    subst this
    exact Lib.run_convert_nil_bytes w _ _ 5 0 Tryz.underlying40 Tryz.underlying5 Tryz.underlying9
  · exact run_convert_bytes_back w _ _ 5 ⟨g, 0, none⟩ cap l Tryz.underlying40 Tryz.underlying5 Tryz.underlying9 (fun j hj => hc g rfl j _ (by simp [Lib.byteCells, hj]))

set_option maxRecDepth 100000 in
set_option maxHeartbeats 4000000 in
theorem specAnswer_any (S : Int) (g n : Nat) (F T : Nat → Int) (t : List UInt8) (w : World) (hrow : Row w g 71 2 n (two F T)) (hlen : t.length ≤ 1048576) :
    Calls Tryz.prog 5 #[.agg #[.int .i64 S, .slice (some ⟨g, 0, none⟩) n n], .string ⟨t.toArray⟩] w fun e w' => e = .returned (.string ⟨(ansZ S n F T t).toArray⟩) ∧ Below w.heap.size w w' := by
  obtain ⟨R, hR⟩ : ∃ R, rdZ S n F T t = R := ⟨_, rfl⟩
  have hrng := rdZ_rng S n F T t
  have hans : ansZ S n F T t = if R.1 = 0 then ansL (runC S n F T (evL R.2.2)) (fun k => runX S n F T (evL R.2.2) (k + 1)) S.toNat R.2.2.length else wrongB R.1 R.2.1 := by unfold ansZ; rw [hR]
  rw [hR] at hrng
  rw [hans]
  clear hans
  obtain ⟨W0, eW⟩ : ∃ W0, w.alloc (.cells #[.int .i64 S, .slice (some ⟨g, 0, none⟩) n n] 29) = W0 := ⟨_, rfl⟩
  have bW : Below w.heap.size w W0 := by rw [← eW]; exact (by repeat (first | exact Below.refl _ _ | assumption | refine below_alloc ?_ _ | refine Below.setCell ?_ (by first | omega | (simp; done) | (simp; omega)) _ | refine Below.alloc ?_ (by first | omega | (simp; done) | (simp; omega)) _ | refine Below.drew ?_))
  have hP : ∀ W, Below W0.heap.size W0 W → (W.cell? ⟨w.heap.size, 0, none⟩ = some (.int .i64 S) ∧ W.cell? ⟨w.heap.size, 1, none⟩ = some (.slice (some ⟨g, 0, none⟩) n n)) ∧ Row W g 71 2 n (two F T) := by
    have c0 : W0.cell? ⟨w.heap.size, 0, none⟩ = some (.int .i64 S) := by rw [← eW]; simp
    have c1 : W0.cell? ⟨w.heap.size, 1, none⟩ = some (.slice (some ⟨g, 0, none⟩) n n) := by rw [← eW]; simp
    exact fun W hb => ⟨⟨by rw [hb.cell (block_lt_of_cell c0)]; exact c0, by rw [hb.cell (block_lt_of_cell c1)]; exact c1⟩, hrow.on (below_on bW hb)⟩
  have lw0 : w.heap.size < W0.heap.size := by rw [← eW]; simp
  have kr := specRead_any S g n F T t W0 (hrow.on bW) hlen
  rw [hR] at kr
  obtain ⟨A, B, l⟩ := R
  simp only at hrng ⊢
  obtain ⟨⟨hA0, hA3⟩, hB, hl2, hlk⟩ := hrng
  obtain ⟨RES, hRES⟩ : ∃ RES, (if A = 0 then ansL (runC S n F T (evL l)) (fun k => runX S n F T (evL l) (k + 1)) S.toNat l.length else wrongB A B) = RES := ⟨_, rfl⟩
  rw [hRES]
  have HRES : Hid _ := hRES
  clear hRES
  have EW : Hid _ := eW
  have HP : Hid _ := hP
  clear eW hP hrow hR
  go_enter Tryz.func5, Tryz.ntmps5
  go_wp2_with fail
  rw [EW.out]
  refine kr.mono ?_
  clear kr EW
  rintro e w1 hsc
  obtain ⟨a1, c1, rfl, hs, b1⟩ := scp_out hsc
  clear hsc
  have hx := Box3.lay w1 (.int .i64 A) (.int .i64 (B : Int)) (.slice a1 l.length c1) 36
  have b1' := below_alloc b1 (.cells #[.int .i64 A, .int .i64 (B : Int), .slice a1 l.length c1] 36)
  have hs1 := hs.alloc (.cells #[.int .i64 A, .int .i64 (B : Int), .slice a1 l.length c1] 36)
  obtain ⟨W1, eW1⟩ : ∃ W1, w1.alloc (.cells #[.int .i64 A, .int .i64 (B : Int), .slice a1 l.length c1] 36) = W1 := ⟨_, rfl⟩
  obtain ⟨hb, ehb⟩ : ∃ hb, w1.heap.size = hb := ⟨_, rfl⟩
  rw [eW1] at hx b1' hs1
  rw [ehb] at hx
  have EW1 : Hid _ := eW1
  have EHB : Hid _ := ehb
  have bF := below_on bW b1'
  have lhb : w.heap.size < hb := by have := b1.size; omega
  have sW1 : W1.heap.size = hb + 1 := by rw [← eW1, ← ehb]; simp
  clear eW1 ehb b1 hs bW
  by_cases hA : A = 0
  · subst hA
    have hl := hlk rfl
    have HR2 : Hid (ansL (runC S n F T (evL l)) (fun k => runX S n F T (evL l) (k + 1)) S.toNat l.length = RES) := by have := HRES.out; rwa [if_pos rfl] at this
    clear hlk HRES hA0 hA3
    obtain ⟨r1, r2, r3⟩ := lok_range hl
    obtain ⟨i0, hi0, hz0, hz1, hz2⟩ := info_parts Tryz.infoU8
    have hns : S.toNat ≤ 60 := by omega
    have hSn : ((S.toNat : Nat) : Int) = S := by omega
    have bB : Below W1.heap.size W1 (W1.alloc (.cells #[.string ⟨#[46]⟩, .string ⟨#[35]⟩, .string ⟨#[126]⟩, .string ⟨#[33]⟩] 9)) := below_alloc (Below.refl _ _) _
    obtain ⟨V, eV⟩ : ∃ V, W1.alloc (.cells #[.string ⟨#[46]⟩, .string ⟨#[35]⟩, .string ⟨#[126]⟩, .string ⟨#[33]⟩] 9) = V := ⟨_, rfl⟩
    obtain ⟨sg, esg⟩ : ∃ sg, hb + 1 = sg := ⟨_, rfl⟩
    have hsg : ∀ i, i < 4 → V.cell? ⟨sg, i, none⟩ = some (.string ⟨[signC (i : Int)].toArray⟩) := by
      intro i hi
      rw [← eV, ← esg, ← sW1]
      rcases (show i = 0 ∨ i = 1 ∨ i = 2 ∨ i = 3 by omega) with rfl | rfl | rfl | rfl
      all_goals
        simp
        rfl
    rw [eV] at bB
    obtain ⟨⟨x0, x1⟩, hrw⟩ := HP.out V (below_on b1' bB)
    obtain ⟨y0, y1, y2⟩ := (hx.on bB).cells
    have kr := specRun_ok S g n _ _ l.length S.toNat F T (evL l) _ V hrw (hs1.on bB) hl hSn hl2
    have EV : Hid _ := eV
    have ESG : Hid _ := esg
    have HSG : Hid _ := hsg
    clear eV esg hsg
    go_upto_region 6 with fail
    rw [EW1.out, EHB.out, EV.out, ESG.out]
    go_wp2_with fail
    refine kr.mono ?_
    clear kr EW1 EHB
    rintro e w2 ⟨u, rfl, dn, b2⟩
    have F2 := below_on bF (below_on bB b2)
    obtain ⟨C, eC⟩ : ∃ C, runC S n F T (evL l) = C := ⟨_, rfl⟩
    obtain ⟨X, eX⟩ : ∃ X, (fun k => runX S n F T (evL l) (k + 1)) = X := ⟨_, rfl⟩
    have hCr : ∀ k, 0 ≤ C k ∧ C k ≤ 1000000 := fun k => by rw [← eC]; exact code_rng S n F T (evL l) k
    have hXr : ∀ k i, 0 ≤ (X k i).told ∧ (X k i).told ≤ 3 := fun k i => by rw [← eX]; exact told_rng S n F T (evL l) k i
    rw [eC, eX] at dn
    obtain ⟨ns, ens⟩ : ∃ ns, S.toNat = ns := ⟨_, rfl⟩
    rw [ens] at dn hns
    have HH : Hid (runC S n F T (evL l) = C ∧ (fun k => runX S n F T (evL l) (k + 1)) = X ∧ S.toNat = ns) := ⟨eC, eX, ens⟩
    obtain ⟨ua, uc, eu⟩ := dnSl dn
    subst eu
    have HS2 : Hid (∀ W, Below w2.heap.size w2 W → ∀ i, i < 4 → W.cell? ⟨sg, i, none⟩ = some (.string ⟨[signC (i : Int)].toArray⟩)) := fun W hb i hi => by
      have h1 := HSG.out i hi
      rw [(below_on b2 hb).cell (block_lt_of_cell h1)]
      exact h1
    have DN : Hid (∀ W, Below w2.heap.size w2 W → DnF W V.heap.size w2.heap.size (.slice ua l.length uc) l.length ns n C (fun _ => true) X (fun k => runD S n F T (evL l) (k + 1))) := fun W hb => dn.on hb
    have lsg : sg < w2.heap.size := by have := block_lt_of_cell (HS2.out w2 (Below.refl _ _) 0 (by omega)); exact this
    clear eC eX ens bB b2 EV ESG x0 x1 hrw y0 y1 y2 hx b1' hs1 HP bF HSG dn
    go_wp2
    go_loopw [7, 35] (fun q i wr => ∃ k : Nat, k ≤ l.length ∧ i = .int .i64 k ∧ wr.ownsRow w2.heap.size 5 1 q (ansL C X ns k).length (Lib.byteCells (ansL C X ns k)) ∧ Below w2.heap.size w2 wr) (fun _ i _ => l.length - (intOf i).toNat)
    case atStart => exact ⟨0, Nat.zero_le _, rfl, World.ownsRow_nil _ _ _ _, Below.refl _ _⟩
    case round =>
      obtain ⟨k, hk, rfl, ow, Bw⟩ := hrel
      by_cases hlt : k < l.length
      · have hi1 : (k : Int) < (l.length : Int) := by omega
        obtain ⟨gd, cd, sa, sc, da, dc, ed, ⟨c0, c1', c2', c3'⟩, hse⟩ := dnAt2 (DN.out wr Bw) hlt
        cases ed
        obtain ⟨Ck, eCk⟩ : ∃ x, C k = x := ⟨_, rfl⟩
        obtain ⟨Xk, eXk⟩ : ∃ x, X k = x := ⟨_, rfl⟩
        have hCk := hCr k
        have hXk := hXr k
        have hal := ansL_length C X ns hCr hns k
        have en : ansL C X ns (k + 1) = ansL C X ns k ++ (doneB (C k) (X k) ns ++ [10]) := rfl
        rw [eCk, eXk] at en
        rw [eCk] at c0 hCk
        rw [eXk] at hse hXk
        have bA := below_alloc (Below.refl wr.heap.size wr) (.cells #[.int .i64 Ck, .bool true, .slice sa ns sc, .slice da n dc] 48)
        have kA : (wr.alloc (.cells #[.int .i64 Ck, .bool true, .slice sa ns sc, .slice da n dc] 48)).cell? ⟨wr.heap.size, 2, none⟩ = some (.slice sa ns sc) := by simp
        obtain ⟨nb, hnb⟩ : ∃ nb, Lib.itoa Ck = nb := ⟨_, rfl⟩
        have ln : nb.length ≤ 21 := by rw [← hnb]; exact Lib.itoa_length_le Ck (by omega) (by omega)
        have kd := l4decimal_any Ck hCk.1 hCk.2 (wr.alloc (.cells #[.int .i64 Ck, .bool true, .slice sa ns sc, .slice da n dc] 48))
        rw [hnb] at kd
        obtain ⟨s1, hs1⟩ : ∃ s1, nb ++ [32] = s1 := ⟨_, rfl⟩
        have l1 : s1.length ≤ 22 := by rw [← hs1]; simp; omega
        have hadd1 : ∀ Y : World, (Op.stringOp .add ⟨nb.toArray⟩ ⟨#[32]⟩).run Tryz.prog Y = .ok (.string ⟨s1.toArray⟩) Y := fun Y => by rw [← hs1]; exact run_string_add_lists Y nb [32] (by omega) (by simp)
        obtain ⟨D, eD⟩ : ∃ D, s1 ++ secsT Xk ns ++ [10] = D := ⟨_, rfl⟩
        have eD2 : doneB Ck Xk ns ++ [10] = D := by rw [← eD, ← hs1, ← hnb]; simp [doneB]
        have lD : D.length ≤ 83 := by rw [← eD]; simp [secsT_length]; omega
        rw [eD2] at en
        obtain ⟨Z, eZ⟩ : ∃ Z, ansL C X ns k = Z := ⟨_, rfl⟩
        rw [eZ] at ow en hal
        have EN : Hid _ := en
        have ED : Hid _ := eD
        have hse1 := hse.on bA
        have ow1 := own_on ow bA
        have B1 := below_on Bw bA
        have hh := bA.size
        have BA : Hid (Below wr.heap.size wr (wr.alloc (.cells #[.int .i64 Ck, .bool true, .slice sa ns sc, .slice da n dc] 48))) := bA
        clear eD eD2 eZ en eCk eXk hse ow Bw hs1 hnb bA
        go_wp2_with fail
        refine kd.mono ?_
        clear kd
        rintro e w4 ⟨rfl, b4⟩
        have kA4 : w4.cell? ⟨wr.heap.size, 2, none⟩ = some (.slice sa ns sc) := by rw [b4.cell (block_lt_of_cell kA)]; exact kA
        have hse4 := slf_here (hse1.on b4)
        have ow4 := own_on ow1 b4
        have B4 := below_on B1 b4
        clear hse1 ow1 B1 b4 kA c0 c1' c2' c3' BA hh
        go_wp2
        clear kA4 hadd1
        go_loopw [10, 47] (fun q i wq => ∃ j : Nat, j ≤ ns ∧ i = .int .i64 j ∧ q = .string ⟨(s1 ++ secsT Xk j).toArray⟩ ∧ Below w4.heap.size w4 wq) (fun _ i _ => ns - (intOf i).toNat)
        case atStart => exact ⟨0, Nat.zero_le _, rfl, by simp [secsT], Below.refl _ _⟩
        case round =>
          obtain ⟨j, hj, rfl, rfl, Bq⟩ := hrel
          by_cases hjl : j < ns
          · have hj1 : (j : Int) < (ns : Int) := by omega
            obtain ⟨gs, cs, es, d0, d1, d2, d3, d4⟩ := secAt (hse4.below Bq (Nat.le_refl _)) hjl
            cases es
            have htk := hXk j
            obtain ⟨tn, etn⟩ : ∃ tn : Nat, (Xk j).told = (tn : Int) := ⟨(Xk j).told.toNat, by omega⟩
            obtain ⟨x1, e1⟩ : ∃ x, (Xk j).count = x := ⟨_, rfl⟩
            obtain ⟨x2, e2⟩ : ∃ x, (Xk j).lost = x := ⟨_, rfl⟩
            obtain ⟨x3, e3⟩ : ∃ x, (Xk j).sweep = x := ⟨_, rfl⟩
            obtain ⟨x4, e4⟩ : ∃ x, (Xk j).last = x := ⟨_, rfl⟩
            rw [etn] at d0 htk
            rw [e1] at d1
            rw [e2] at d2
            rw [e3] at d3
            rw [e4] at d4
            have ht4 : (tn : Int) < 4 := by omega
            have bA := below_alloc (Below.refl _ _) (.cells #[.int .i64 (tn : Int), .int .i64 x1, .bool x2, .bool x3, .int .i64 x4] 50) (w := wr) (W := wr)
            have hsgc := HS2.out _ (below_on B4 (below_on Bq bA)) tn (by omega)
            obtain ⟨cc, ecc⟩ : ∃ cc, signC (tn : Int) = cc := ⟨_, rfl⟩
            rw [ecc] at hsgc
            have en2 : s1 ++ secsT Xk (j + 1) = s1 ++ secsT Xk j ++ [cc] := by simp [secsT, etn, ecc]
            obtain ⟨Y, eY⟩ : ∃ Y, s1 ++ secsT Xk j = Y := ⟨_, rfl⟩
            obtain ⟨Y2, eY2⟩ : ∃ Y2, Y ++ [cc] = Y2 := ⟨_, rfl⟩
            have lY : Y.length ≤ 100 := by rw [← eY]; simp [secsT_length]; omega
            have hadd3 : ∀ U : World, (Op.stringOp .add ⟨Y.toArray⟩ ⟨#[cc]⟩).run Tryz.prog U = .ok (.string ⟨Y2.toArray⟩) U := fun U => by rw [← eY2]; exact run_string_add_lists U Y [cc] (by omega) (by simp)
            have EN2 : Hid (s1 ++ secsT Xk (j + 1) = Y2) := en2.trans (by rw [eY, eY2])
            rw [eY]
            have B5 := below_on Bq bA
            clear e1 e2 e3 e4 etn ecc en2 eY eY2 bA
            go_wp2
            exact ⟨⟨j + 1, hjl, by simp, by rw [EN2.out], B5⟩, by simp [intOf]; omega⟩
          · have hj1 : ¬ (j : Int) < (ns : Int) := by omega
            obtain rfl : j = ns := by omega
            have ow5 := own_on ow4 Bq
            have B5 := below_on B4 Bq
            have EDo : s1 ++ secsT Xk j ++ [10] = D := ED.out
            have lY : (s1 ++ secsT Xk j).length ≤ 100 := by simp [secsT_length]; omega
            generalize s1 ++ secsT Xk j = Y at *
            have hadd2 : ∀ U : World, (Op.stringOp .add ⟨Y.toArray⟩ ⟨#[10]⟩).run Tryz.prog U = .ok (.string ⟨D.toArray⟩) U := fun U => by rw [← EDo]; exact run_string_add_lists U Y [10] (by omega) (by simp)
            have z5 := B5.size
            clear EDo ED Bq ow4 B4
            go_wp2_with (at_builtin; refine Lib.wpList_append_own_string _ rfl _ _ 40 9 rfl w2.heap.size 5 i0 Tryz.underlying40 Tryz.underlying9 hi0 hz0 hz1 hz2 _ _ _ rfl ow5 ⟨D.toArray⟩ rfl ?c3 ?c4 ?c5 ?_)
            case c3 => first | omega | (unfold maxLen; omega)
            case c4 => first | exact z5 | omega
            intro v' w6 hown' hgrow _
            have B6 : Below w2.heap.size w2 w6 := B5.grown hgrow z5 (fun x hx => (ow5.lt x hx).1)
            have hI6 : w6.ownsRow w2.heap.size 5 1 v' (ansL C X j (k + 1)).length (Lib.byteCells (ansL C X j (k + 1))) := by
              rw [EN.out, List.length_append]
              have : Lib.byteCells (Z ++ D) = Lib.byteCells Z ++ Lib.strCells ⟨D.toArray⟩ := by simp [Lib.byteCells, Lib.strCells]
              rw [this]
              exact hown'
            clear hown' hgrow ow5 B5
            go_wp2
            exact ⟨⟨k + 1, hlt, by simp, hI6, B6⟩, by simp [intOf]; omega⟩
      · have hi1 : ¬ (k : Int) < (l.length : Int) := by omega
        obtain rfl : k = l.length := by omega
        have hcv := convO ow
        have FIN := below_on F2 Bw
        obtain ⟨ao, cap, esl⟩ : ∃ ao cap, u7 = .slice ao (ansL C X ns l.length).length cap := by
          rcases ow.2 with ⟨hv, h0⟩ | ⟨g, cap, cur, hv, _⟩
          · exact ⟨_, _, by rw [h0]; exact hv⟩
          · exact ⟨_, _, hv⟩
        subst esl
        clear ow
        go_wp2
        go_ret
        exact ⟨by rw [← HR2.out, HH.out.1, HH.out.2.1, HH.out.2.2]; try rfl, FIN⟩
  · obtain ⟨na, hna⟩ : ∃ x, Lib.itoa A = x := ⟨_, rfl⟩
    obtain ⟨nb, hnb⟩ : ∃ x, Lib.itoa (B : Int) = x := ⟨_, rfl⟩
    have la : na.length ≤ 21 := by rw [← hna]; exact Lib.itoa_length_le A (by omega) (by omega)
    have lb : nb.length ≤ 21 := by rw [← hnb]; exact Lib.itoa_length_le _ (by omega) (by omega)
    obtain ⟨s1, hs1'⟩ : ∃ x, [119, 114, 111, 110, 103, 32] ++ na = x := ⟨_, rfl⟩
    obtain ⟨s2, hs2⟩ : ∃ x, s1 ++ [32] = x := ⟨_, rfl⟩
    obtain ⟨s3, hs3⟩ : ∃ x, s2 ++ nb = x := ⟨_, rfl⟩
    obtain ⟨s4, hs4⟩ : ∃ x, s3 ++ [10] = x := ⟨_, rfl⟩
    have e4 : wrongB A B = s4 := by rw [← hs4, ← hs3, ← hs2, ← hs1', ← hna, ← hnb]; rfl
    have l1 : s1.length ≤ 30 := by rw [← hs1']; simp; omega
    have l2 : s2.length ≤ 31 := by rw [← hs2]; simp; omega
    have l3 : s3.length ≤ 60 := by rw [← hs3]; simp; omega
    have ad1 : ∀ Y : World, (Op.stringOp .add ⟨#[119, 114, 111, 110, 103, 32]⟩ ⟨na.toArray⟩).run Tryz.prog Y = .ok (.string ⟨s1.toArray⟩) Y := fun Y => by rw [← hs1']; exact run_string_add_lists Y [119, 114, 111, 110, 103, 32] na (by simp) (by omega)
    have ad2 : ∀ Y : World, (Op.stringOp .add ⟨s1.toArray⟩ ⟨#[32]⟩).run Tryz.prog Y = .ok (.string ⟨s2.toArray⟩) Y := fun Y => by rw [← hs2]; exact run_string_add_lists Y s1 [32] (by omega) (by simp)
    have ad3 : ∀ Y : World, (Op.stringOp .add ⟨s2.toArray⟩ ⟨nb.toArray⟩).run Tryz.prog Y = .ok (.string ⟨s3.toArray⟩) Y := fun Y => by rw [← hs3]; exact run_string_add_lists Y s2 nb (by omega) (by omega)
    have ad4 : ∀ Y : World, (Op.stringOp .add ⟨s3.toArray⟩ ⟨#[10]⟩).run Tryz.prog Y = .ok (.string ⟨s4.toArray⟩) Y := fun Y => by rw [← hs4]; exact run_string_add_lists Y s3 [10] (by omega) (by simp)
    have kca := fun dd os => Calls.regrown_of (l4decimal_any A (by omega) (by omega) (Sort.grow (redrawn W1 dd) os))
    have kcb := fun dd os => Calls.regrown_of (l4decimal_any (B : Int) (by omega) (by omega) (Sort.grow (redrawn W1 dd) os))
    rw [hna] at kca
    rw [hnb] at kcb
    obtain ⟨x0, x1, x2⟩ := hx.cells
    have k0 := cell_regrown x0
    have k1 := cell_regrown x1
    have E4 : Hid _ := e4
    clear hna hnb hs1' hs2 hs3 hs4 e4
    go_upto_region 3 with fail
    rw [EW1.out, EHB.out]
    refine wp_region_quiet_below (by kernel_rfl) (by kernel_rfl) ?_
    repeat (go_big_quiet_step (first | with_reducible exact kca _ _ | with_reducible exact kcb _ _))
    refine wpQuiet_nil ?_
    intro _ hw'
    obtain ⟨⟨dq, osq⟩, hw''⟩ := hw'
    have hBq := below_on bF (below_regrown W1 dq osq)
    subst hw''
    clear kca kcb k0 k1 x0 x1 x2
    generalize Sort.grow (redrawn W1 dq) osq = wq at *
    go_wp2
    go_ret
    exact ⟨by rw [← HRES.out, if_neg hA, E4.out]; try rfl, hBq⟩

end Go.Proofs.YtlpopfhaephfaabGreatDoor

namespace Go.Proofs.YtlpopfhaephfaabGreatDoor
open Go.RowKit

/-- An array of strings that reads as a list of texts holds them, cell for cell. -/
theorem cells_of_strs {H : Type} {enc : TypeId × Value → H} {P : Program} {w : World} {base : Nat} {sp : Nat → Bool} {held : Bool} {fuel : Nat} {t e : TypeId} {n : Nat} {cs : List Value} {ss : List (List UInt8)} {p : List MemPlace}
    (ht : P.underlying t = some (.array n e)) (he : P.underlying e = some .string) (hce : P.cellsOf e = 1) (hct : P.cellsOf t = n)
    (h : DataW.trod enc P w base sp held fuel t cs = some (.agg (ss.map fun s => .lit (.string s)), p)) : cs = ss.map fun s => Value.string ⟨s.toArray⟩ := by
  cases fuel with
  | zero => simp [DataW.trod] at h
  | succ fuel =>
    simp only [DataW.trod, ht, hce, hct, Nat.mul_one] at h
    split at h
    · obtain ⟨xs, hm, hx⟩ := Option.map_eq_some_iff.1 h
      have hxs : xs.map (·.1) = ss.map fun s => (DataW.lit (.string s) : DataW H) := by
        have := congrArg Prod.fst hx
        simpa using this
      have hxl : xs.length = n := by simpa using Lib.mapM_length hm
      have hzl : ss.length = n := by
        have := congrArg List.length hxs
        simp at this
        omega
      apply List.ext_getElem?
      intro i
      by_cases hi : i < n
      · obtain ⟨b, hb, hf⟩ := Lib.mapM_at hm i i (by simp [hi])
        obtain ⟨s, hc, rfl, _⟩ := DataW.trod_string he hf
        have h1 : cs[i]? = some (.string s) := by
          have := congrArg (·[0]?) hc
          simpa [List.getElem?_take, List.getElem?_drop] using this
        have h2 : (xs.map (·.1))[i]? = some (DataW.lit (.string s.data.toList) : DataW H) := by simp [hb]
        rw [hxs] at h2
        simp only [List.getElem?_map, Option.map_eq_some_iff, DataW.lit.injEq, Lit.string.injEq] at h2
        obtain ⟨z', hz', e1⟩ := h2
        rw [h1, List.getElem?_map, hz', e1]
        rfl
      · rw [List.getElem?_eq_none (by omega), List.getElem?_eq_none (by simp; omega)]
    · cases h

theorem Tryz.gWords : Tryz.prog.globalNamed "loop.example/treadle/impl.words" = some 0 := by kernel_rfl

/-- The words and the powers of ten, as they are laid. -/
theorem lay_of_laid {W : World} {r1 r2 : List (String × DataW Unit)} (h1 : laidMet Tryz.prog (("internal/strconv.uint64pow10", Rows.laid_internal_strconv_uint64pow10) :: r1) W) (h2 : laidMet Tryz.prog (("loop.example/treadle/impl.words", Rows.laid_loop_example_treadle_impl_words) :: r2) W) : Lay W := by
  refine ⟨?_, Lib.tabIs_of_head (k := .u64) (zs := Lib.pow10Tab) (rest := r1) Tryz.gPow (t := 145) (by kernel_rfl) Tryz.underlying145 Tryz.underlying121 (by kernel_rfl) (by kernel_rfl) h1⟩
  obtain ⟨ps, ⟨g', t', cs, fuel, p, q, hg', ht', hvar, hd, _, _⟩, _⟩ := h2
  obtain rfl := Option.some.inj (Tryz.gWords.symm.trans hg')
  obtain rfl : t' = 112 := Option.some.inj (ht'.symm.trans (by kernel_rfl))
  have hc := cells_of_strs (ss := [[], [112, 97, 115, 115], [103, 104, 111, 115, 116], [100, 101, 97, 100], [97, 108, 105, 118, 101], [114, 101, 115, 101, 116]]) Tryz.underlying112 Tryz.underlying9 (by kernel_rfl) (by kernel_rfl) hd
  intro i hi
  have := World.var?_cell Tryz.gWords hvar i
  rw [this, ← Array.getElem?_toList, hc]
  rcases (show i = 0 ∨ i = 1 ∨ i = 2 ∨ i = 3 ∨ i = 4 ∨ i = 5 by omega) with rfl | rfl | rfl | rfl | rfl | rfl <;> rfl

end Go.Proofs.YtlpopfhaephfaabGreatDoor

namespace Go.Proofs.YtlpopfhaephfaabGreatDoor
open Go.ChangeShapes Go.WideShapes Go.ChangeAt Go.RowKit Go.Joins

theorem Tryz.own : ownKnob Tryz.prog.godebug = none := by kernel_rfl
theorem Tryz.laidOut : laidOutB Tryz.prog = true := by kernel_rfl
theorem Tryz.cellsL : Tryz.prog.cellsOf 24 = 2 := by kernel_rfl
theorem Tryz.cellsC : Tryz.prog.cellsOf 73 = 2 := by kernel_rfl
theorem Tryz.cellsI : Tryz.prog.cellsOf 3 = 1 := by kernel_rfl

section
variable {H : Type} {enc : TypeId × Value → H} {W : World} {base : Nat} {spare : Nat → Bool} {held : Bool}

theorem came_of_trod {fuel : Nat} {c : Value} {x : DataW H × List MemPlace} (h : DataW.trod enc Tryz.prog W base spare held fuel 22 [c] = some x) :
    ∃ (ao : Option Addr) (n cap : Nat) (F T : Nat → Int), c = .slice ao n cap ∧ n ≤ maxLen ∧ Came W ao n F T := by
  rcases Deep.open_slice_pairs Tryz.underlying22 Tryz.underlying73 Tryz.cellsC rfl rfl Tryz.cellsI Tryz.cellsI h with ⟨hc, _⟩ | ⟨a, len, cap, m, n, V0, V1, D0, D1, P0, P1, hc, _, hl, hm, hmm, _, hx⟩
  · simp only [List.cons.injEq, and_true] at hc
    exact ⟨none, 0, 0, fun _ => 0, fun _ => 0, hc, Nat.zero_le _, .inl rfl⟩
  · simp only [List.cons.injEq, and_true] at hc
    refine ⟨some a, len, cap, fun i => intOf (V0 i), fun i => intOf (V1 i), hc, Nat.le_trans hl hm, ?_⟩
    rcases Nat.eq_zero_or_pos len with h0 | h0
    · exact .inl h0
    · right
      have hlm : len ≤ m := by rw [hmm]; split <;> omega
      obtain ⟨b, off, spot⟩ := a
      have hs : spot = none := by simpa [Addr.add] using World.cell?_spot (hx 0 (by omega)).1
      subst hs
      refine ⟨b, off, rfl, ?_, fun i hi => ?_⟩
      · have := World.block_lt_of_cell? W _ (hx 0 (by omega)).1
        simpa [Addr.add] using this
      · obtain ⟨h1, h2, h3, h4⟩ := hx i (by omega)
        obtain ⟨z, e0, _, _⟩ := DataW.trod_int Tryz.underlying3 h3
        obtain ⟨z', e1, _, _⟩ := DataW.trod_int Tryz.underlying3 h4
        simp only [List.cons.injEq, and_true] at e0 e1
        rw [add_plain] at h1 h2
        rw [e0] at h1
        rw [e1] at h2
        rw [← Nat.add_assoc] at h2
        exact ⟨by rw [h1]; show _ = some (Value.int .i64 (intOf (V0 i))); rw [e0]; rfl, by rw [h2]; show _ = some (Value.int .i64 (intOf (V1 i))); rw [e1]; rfl⟩

set_option maxRecDepth 100000 in
theorem open_layout {r : Reach} {b0 : Nat} {v : Value} {d : DataW H} {p : List MemPlace} (hv : Value.okWide Tryz.prog W r b0 24 v) (h : DataW.Trod enc Tryz.prog W base spare held 24 v d p) :
    ∃ (S : Int) (ao : Option Addr) (n cap : Nat) (F T : Nat → Int), v = .agg #[.int .i64 S, .slice ao n cap] ∧ n ≤ maxLen ∧ Came W ao n F T ∧ (Lit.int .i64 S).wf = true := by
  obtain ⟨c0, c1, y0, y1, m, rfl, rfl, rfl, hy0, hy1⟩ := open_agg2 Tryz.underlying24 (by kernel_rfl) Tryz.cellsL hv h
  obtain ⟨S, e0, _, wS⟩ := DataW.trod_int Tryz.underlying3 hy0
  simp only [List.cons.injEq, and_true] at e0
  obtain ⟨ao, n, cap, F, T, e1, hn, hc⟩ := came_of_trod hy1
  exact ⟨S, ao, n, cap, F, T, by rw [e0, e1], hn, hc, wS⟩
end

end Go.Proofs.YtlpopfhaephfaabGreatDoor

namespace Go.Proofs.YtlpopfhaephfaabGreatDoor
open Go.ChangeShapes Go.WideShapes Go.ChangeAt Go.RowKit Go.Joins

section
variable {H : Type} {enc : TypeId × Value → H}
/-- A listed row whose contract is handed the world's shape besides. -/
theorem handed_and_shaped {a : Assume} {C : Checked} {os : Os} {f : FuncId} {fn : Func} {s : ChangeSpec} {conds : List PathCond} {apart fresh handsOn again : Bool} {X : World → Array Value → Prop}
    (hX : ∀ (w w' : World) (args : Array Value), w.heap = w'.heap → X w args → X w' args)
    (own : ownKnob C.prog.godebug = none) (started : os.Started) (noInit : C.prog.inits.idxOf? f = none) (hfn : C.prog.funcs[f]? = some fn)
    (witness : ∃ (w : World) (tape : Tape) (i : Input), w.os = os ∧ (w.forCall tape i).Shaped C.prog ∧ i.vars = [] ∧ Input.okWide C.prog (w.forCall tape i) .any w.heap.size f i ∧
      ((s.pre enc C.prog fn conds apart (w.forCall tape i).memory i.args ∧ X (w.forCall tape i).memory i.args) ∧ sizedMet enc C.prog fn (OpenSpec.ofChange s) apart (w.forCall tape i).memory i.args) ∧ a.holds C.prog (lone (Frame.enter C.prog f i.args .normal) [] (w.forCall tape i)))
    (contract : ∀ (W : World) (base : Nat) (args : Array Value) (ds gs : List (DataW H)) (before : List MemPlace),
      (∀ (j : Nat) t v, fn.params[j]? = some t → args[j]? = some v → Value.okWide C.prog W .any base t v) →
      DataW.Whole enc C.prog fn.params.toList s.vars apart W args.toList ds gs before → X W args → W.ShapedOpen C.prog →
      Calls C.prog f args W fun e W' => ∃ v, e = .returned v ∧ s.post enc C.prog fn apart fresh handsOn again W args v W') :
    ReturnsInHanded a C os f .any (fun w args => (s.pre enc C.prog fn conds apart w args ∧ X w args) ∧ sizedMet enc C.prog fn (OpenSpec.ofChange s) apart w args) (s.post enc C.prog fn apart fresh handsOn again) := by
  refine returnsInHanded_of_calls own started noInit witness ?_
  intro w tape i _ hsh _ hok hpre hholds
  obtain ⟨_, _, _, fn', hfn', _, _, _, _, hval⟩ := hok
  have e : fn' = fn := Option.some.inj (hfn'.symm.trans hfn)
  subst e
  obtain ⟨⟨⟨ds, gs, before, hw, hc⟩, hx⟩, hz⟩ := hpre
  have hw' := DataW.Whole.of_heap (w' := w.forCall tape i) (by rfl) hw
  refine (contract (w.forCall tape i) w.heap.size i.args ds gs before hval hw' (hX _ _ _ (by rfl) hx) hsh).mono fun e W' ⟨v, he, hp⟩ => ?_
  subst he
  exact ChangeSpec.post_blind hp
end

theorem Tryz.tSyn : (Tryz.prog.globals[5]?).map (·.type) = some 56 := by kernel_rfl
theorem Tryz.tRng : (Tryz.prog.globals[6]?).map (·.type) = some 56 := by kernel_rfl
theorem Tryz.esCells : Tryz.prog.cellsOf 186 = 1 := by kernel_rfl
theorem Tryz.stCells : Tryz.prog.cellsOf 9 = 1 := by kernel_rfl
theorem esStar : "*" ++ "errors.errorString" = "*errors.errorString" := by decide
theorem Tryz.esRow (u : TypeId) (h : Tryz.prog.typeName? 3 u = some "*errors.errorString") : u = 184 :=
  typeName_ptr_named (nm := "errors.errorString") (by rw [esStar]; kernel_rfl) (by kernel_rfl) (by decide) u (by rw [esStar]; exact h)

set_option maxRecDepth 100000 in
theorem layR_of_laid {W : World} (h : laidMet Tryz.prog Rows.fnExactAnswerRow.laid W) (hsh : W.ShapedOpen Tryz.prog) : LayR W := by
  have h2 := laidMet.tail (laidMet.tail h)
  have h4 := laidMet.tail (laidMet.tail h2)
  have h5 := laidMet.tail h4
  have h6 := laidMet.tail h5
  obtain ⟨a1, s1, v1, _⟩ := laid_sentinel h4 Tryz.gRng Tryz.tRng Tryz.underlying56 Tryz.esRow Tryz.underlying184 Tryz.underlying186 rfl rfl Tryz.underlying9 Tryz.esCells Tryz.stCells
  obtain ⟨a2, s2, v2, _⟩ := laid_sentinel h5 Tryz.gSyn Tryz.tSyn Tryz.underlying56 Tryz.esRow Tryz.underlying184 Tryz.underlying186 rfl rfl Tryz.underlying9 Tryz.esCells Tryz.stCells
  exact ⟨lay_of_laid h2 h6, ⟨_, _, v2⟩, ⟨_, _, v1⟩, cell_of_shapedOpen_int (t := 3) (zero := #[.int .i64 0]) hsh (of_decide_eq_true (by kernel_rfl)) (by kernel_rfl) rfl (by kernel_rfl) (by kernel_rfl) Tryz.underlying3⟩

/-- The cells of a datum of numbers or strings. -/
def litC (d : DataW Unit) : List Value :=
  match d with
  | .lit (.int k z) => [.int k z]
  | .lit (.string s) => [.string ⟨s.toArray⟩]
  | _ => []
def aggC (d : DataW Unit) : List Value :=
  match d with
  | .agg ds => ds.flatMap litC
  | _ => []
def agg2C (d : DataW Unit) : List Value :=
  match d with
  | .agg ds => ds.flatMap aggC
  | _ => []

/-- a world in which the listed variables lie as they are laid -/
def laidW (P : Program) (os : Os) : World :=
  let k := (World.holding P default ⟨#[], #[], []⟩).heap.size
  let w0 := World.holding P os ⟨#[.cells #[.string { data := #[118, 97, 108, 117, 101, 32, 111, 117, 116, 32, 111, 102, 32, 114, 97, 110, 103, 101] }] 186, .cells #[.string { data := #[105, 110, 118, 97, 108, 105, 100, 32, 115, 121, 110, 116, 97, 120] }] 186], #[], []⟩
  let put := fun (h : Array Obj) (g : Nat) (cs : Array Value) => h.modify g fun
      | .cells _ t frozen => .cells cs t frozen
      | o => o
  { w0 with heap := put (put (put (put (put (put (put (put w0.heap 3 (aggC Rows.laid_math_bits_deBruijn32tab).toArray) 4 (aggC Rows.laid_math_bits_deBruijn64tab).toArray) 1 (aggC Rows.laid_internal_strconv_uint64pow10).toArray) 8 (agg2C Rows.laid_unicode_utf8_acceptRanges).toArray) 6 #[.iface 184 (.pointer (some ⟨k, 0, none⟩))]) 5 #[.iface 184 (.pointer (some ⟨k + 1, 0, none⟩))]) 0 (aggC Rows.laid_loop_example_treadle_impl_words).toArray) 7 (aggC Rows.laid_unicode_utf8_first).toArray }
theorem laidW_met (os : Os) (args : Array Value) : laidMet Tryz.prog Rows.fnExactAnswerRow.laid ((laidW Tryz.prog os).forCall (fun _ _ => 0) ⟨#[], args, []⟩).memory :=
  laidMet_of_run3 8 (by kernel_rfl) (by kernel_rfl) (by kernel_rfl)

set_option maxRecDepth 100000 in
theorem fnExactAnswer_lifted (os : Os) (started : os.Started) (H : Type) (enc : TypeId × Value → H) :
    ReturnsInHanded {} Tryz.checked os 3 .any (fun w args => (Rows.fnExactAnswerSpec.pre enc Tryz.prog Tryz.f3 [] false w args ∧ laidMet Tryz.prog Rows.fnExactAnswerRow.laid w) ∧ sizedMet enc Tryz.prog Tryz.f3 (OpenSpec.ofChange Rows.fnExactAnswerSpec) false w args)
      (Rows.fnExactAnswerSpec.post enc Tryz.prog Tryz.f3 false true false false) := by
  refine handed_and_shaped (C := Tryz.checked) (X := fun w _ => laidMet Tryz.prog Rows.fnExactAnswerRow.laid w) (fun _ _ _ hh h => h.of_heap hh) Tryz.own started (by kernel_rfl) Tryz.func3
    (ChangeSpec.witness_at (enc := enc) (C := Tryz.checked) (os := os) (X := fun w _ => laidMet Tryz.prog Rows.fnExactAnswerRow.laid w) false (laidW Tryz.prog os) #[.agg #[.int .i64 0, .slice none 0 0], .string ⟨#[]⟩] 8 rfl (by kernel_rfl) (by kernel_rfl) (by kernel_rfl) (by kernel_rfl) (by kernel_rfl) (laidW_met os _)) ?_
  intro W base args ds gs before hval0 hW hL hsh
  have hval : ∀ (j : Nat) t v, Tryz.f3.params[j]? = some t → args[j]? = some v → Value.okWide Tryz.prog W .any base t v := hval0
  have hW' := hW
  obtain ⟨p, q, hA0, hV0, rfl, hfz, hnd⟩ := hW
  have hA : DataW.TrodAll enc Tryz.prog W 0 (fun _ => true) true Tryz.f3.params.toList args.toList ds p := hA0
  have hV : DataW.TrodVars enc Tryz.prog W (fun _ => true) ["loop.example/treadle/impl.words"] gs q := hV0
  rw [Tryz.params3] at hA hval
  obtain ⟨v0, vs0, d0, ds0, p0, q0, hargs, rfl, rfl, h0, r0⟩ := trodAll_cons hA
  obtain ⟨v1, vs1, d1, ds1, p1, q1, rfl, rfl, rfl, h1, r1⟩ := trodAll_cons r0
  obtain ⟨rfl, rfl, rfl⟩ := trodAll_nil r1
  obtain rfl : args = #[v0, v1] := by rw [← Array.toList_inj]; exact hargs
  obtain ⟨gd, rfl⟩ : ∃ d, gs = [d] := by
    obtain ⟨g, t, cs, fuel, d, p, h, _⟩ := trodVars_one hV
    exact ⟨d, h⟩
  have hS : LayR W := layR_of_laid hL hsh
  have hl0 : ∀ x ∈ p0, x.block < W.heap.size := fun x hx => by simpa using hW'.lt x (by simp [hx])
  have hl1 : ∀ x ∈ p1, x.block < W.heap.size := fun x hx => by simpa using hW'.lt x (by simp [hx])
  obtain ⟨S, ao, n, cap, F, T, rfl, hn, hc, _⟩ := open_layout (hval 0 24 v0 rfl rfl) h0
  obtain ⟨t, rfl⟩ : ∃ t : List UInt8, v1 = .string ⟨t.toArray⟩ := by
    obtain ⟨s, h2, _⟩ := ChangeMaps.open_string Tryz.underlying9 (hval 1 9 v1 rfl rfl) h1
    exact ⟨s.data.toList, by rw [h2, mk_data]⟩
  clear hA0 hval0 hV0
  have key : Calls Tryz.prog 3 #[.agg #[.int .i64 S, .slice ao n cap], .string ⟨t.toArray⟩] W fun e w' => e = .returned (.bool true) ∧ Below W.heap.size W w' := by
    by_cases ht : (1048576 : Int) < (t.length : Int)
    · exact ans_long S ao n cap t W ht
    · by_cases h : (n : Int) ≤ 1048576
      · exact ans_small S ao n cap F T t W ht h hc hS _
          (fun g V hr => specAnswer_any S g n F T t V hr (by omega))
          (fun g V hr hla => implAnswer_any S g n F T t V hr hla (by omega))
      · exact ans_great S ao n cap t W hn ht h
  refine key.mono fun e W' ⟨he, hb⟩ => ?_
  subst he
  refine ⟨_, rfl, _, _, _, [], p0 ++ (p1 ++ []), q, hW', ?_, ?_, ?_, hb.frame _, fun h => by cases h⟩
  · exact trodAll_mk1 (shut_bool Tryz.underlying4 true)
  · exact trodAll_cons_mk (Below.trod Tryz.laidOut (by kernel_rfl) (of_decide_eq_true (by kernel_rfl)) h0 hb hl0) (trodAll_cons_mk (Below.trod Tryz.laidOut (by kernel_rfl) (of_decide_eq_true (by kernel_rfl)) h1 hb hl1) trodAll_mk0)
  · exact Below.trodVars Tryz.laidOut hb (by kernel_rfl) hV

theorem fnExactAnswer_row : Rows.FnExactAnswerSaid :=
  OpenClaim.holds_of_wide 3 Tryz.f3 rfl rfl rfl rfl rfl rfl rfl ⟨rfl, rfl, rfl, rfl, rfl⟩ rfl rfl rfl rfl rfl (by kernel_rfl) Tryz.func3 (by kernel_rfl)
    (of_decide_eq_true (by kernel_rfl)) (by unfold Func.isWrapper; first | (rw [if_pos (by decide +kernel)]; kernel_rfl) | (rw [if_neg (by decide +kernel)]; exact ⟨rfl, rfl⟩))
    (fun os started H enc _ => fnExactAnswer_lifted os started H enc)

theorem fnExactAnswer_holds : Rows.FnExactAnswerCardSaid :=
  Claim7.holds_tied_plain_at .later [] [.data, .data, .data, .data, .sentinel, .sentinel, .data, .pinned] true (true, "c90517a9ae217ad556b1d64b84d72050b2eae0727bdd47e52b6a7b907eb452ba") true
    fnExactAnswer_row (fun _ h => by cases h) (by kernel_rfl) (fun _ h => by cases h) fnExactAnswer_row_tie rfl ⟨rfl, rfl⟩ (by kernel_rfl) rfl
    (fun f fn hf hfn => by
      obtain rfl : f = 3 := Option.some.inj ((show Tryz.prog.funcNamed "loop.example/treadle/laws.FnExactAnswer" = some 3 by kernel_rfl).symm.trans hf) |>.symm
      obtain rfl : fn = Tryz.f3 := (Option.some.inj (Tryz.func3.symm.trans hfn)).symm
      exact ⟨by kernel_rfl, fun j t ht => by
        rw [Tryz.params3] at ht
        match j with
        | 0 =>
          have h3 : t = 24 := by simpa using ht.symm
          subst h3
          exact (show Tryz.prog.wantsStandIn 24 = false by kernel_rfl)
        | 1 =>
          have h3 : t = 9 := by simpa using ht.symm
          subst h3
          exact (show Tryz.prog.wantsStandIn 9 = false by kernel_rfl)
        | j + 2 => simp at ht⟩)
    (by kernel_rfl)

#print axioms fnExactAnswer_holds

end Go.Proofs.YtlpopfhaephfaabGreatDoor
