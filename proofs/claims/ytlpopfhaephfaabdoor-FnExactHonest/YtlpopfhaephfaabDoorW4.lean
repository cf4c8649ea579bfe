import Derived.Test.YtlpopfhaephfaabDoorW3
import Derived.BigRegion
import Derived.BigQuiet
import Derived.Deep.QuietTactic
import Derived.Deep.RegionWith
namespace Go.Proofs.YtlpopfhaephfaabDoor
open Go.RowKit

def eq2 (x y x' y' : Int) : Bool := decide (x = x') && decide (y = y')

set_option maxHeartbeats 400000 in
theorem eqCounter_any (x y x' y' : Int) (w : World) :
    Calls Tryd.prog 51 #[.agg #[.int .i64 x, .int .i64 y], .agg #[.int .i64 x', .int .i64 y']] w fun e w' => e = .returned (.bool (eq2 x y x' y')) ∧ Below w.heap.size w w' := by
  rcases (show (¬ x = x') ∨ (x' = x ∧ ¬ y = y') ∨ (x' = x ∧ y' = y) by omega) with h | ⟨rfl, h⟩ | ⟨rfl, rfl⟩
  · have e1 : eq2 x y x' y' = false := by simp [eq2, h]
    have h' : (x != x') = true := by simp [h]
    rw [e1]; clear e1 h
    go_enter Tryd.func51, Tryd.ntmps51
    go_wp2
    go_ret
    exact ⟨rfl, (by repeat (first | exact Below.refl _ _ | assumption | refine below_alloc ?_ _ | refine Below.setCell ?_ (by first | omega | (simp; done) | (simp; omega)) _ | refine Below.alloc ?_ (by first | omega | (simp; done) | (simp; omega)) _ | refine Below.drew ?_))⟩
  · have e1 : eq2 x' y x' y' = false := by simp [eq2, h]
    have h' : (y != y') = true := by simp [h]
    rw [e1]; clear e1 h
    go_enter Tryd.func51, Tryd.ntmps51
    go_wp2
    go_ret
    exact ⟨rfl, (by repeat (first | exact Below.refl _ _ | assumption | refine below_alloc ?_ _ | refine Below.setCell ?_ (by first | omega | (simp; done) | (simp; omega)) _ | refine Below.alloc ?_ (by first | omega | (simp; done) | (simp; omega)) _ | refine Below.drew ?_))⟩
  · have e1 : eq2 x' y' x' y' = true := by simp [eq2]
    rw [e1]; clear e1
    go_enter Tryd.func51, Tryd.ntmps51
    go_wp2
    go_ret
    exact ⟨rfl, (by repeat (first | exact Below.refl _ _ | assumption | refine below_alloc ?_ _ | refine Below.setCell ?_ (by first | omega | (simp; done) | (simp; omega)) _ | refine Below.alloc ?_ (by first | omega | (simp; done) | (simp; omega)) _ | refine Below.drew ?_))⟩

def eqZ (n n' : Nat) (F T F' T' : Nat → Int) : Bool := decide (n = n') && (List.range n).all (fun i => eq2 (F i) (T i) (F' i) (T' i))

theorem eqZ_false {n : Nat} {F T F' T' : Nat → Int} {k : Nat} (hk : k < n) (h : eq2 (F k) (T k) (F' k) (T' k) = false) : eqZ n n F T F' T' = false := by
  unfold eqZ
  have : ((List.range n).all fun i => eq2 (F i) (T i) (F' i) (T' i)) = false := List.all_eq_false.2 ⟨k, List.mem_range.2 hk, by simp [h]⟩
  simp [this]
theorem eqZ_true {n n' : Nat} {F T F' T' : Nat → Int} (hn : n = n') (h : ∀ i, i < n → eq2 (F i) (T i) (F' i) (T' i) = true) : eqZ n n' F T F' T' = true := by
  subst hn
  unfold eqZ
  have : ((List.range n).all fun i => eq2 (F i) (T i) (F' i) (T' i)) = true := List.all_eq_true.2 fun i hi => h i (List.mem_range.1 hi)
  rw [this]; simp
theorem eqZ_refl (n : Nat) (F T : Nat → Int) : eqZ n n F T F T = true := eqZ_true rfl fun _ _ => by simp [eq2]
theorem eq_succ {F T F' T' : Nat → Int} {k : Nat} (h : ∀ i, i < k → eq2 (F i) (T i) (F' i) (T' i) = true) (hk : eq2 (F k) (T k) (F' k) (T' k) = true) : ∀ i, i < k + 1 → eq2 (F i) (T i) (F' i) (T' i) = true := by
  intro i hi
  rcases (show i < k ∨ i = k by omega) with h' | rfl
  · exact h i h'
  · exact hk

set_option maxHeartbeats 1000000 in
theorem eqCounterS_any (g g' n n' : Nat) (F T F' T' : Nat → Int) (w : World) (hrow : Row w g 81 2 n (two F T)) (hrow' : Row w g' 81 2 n' (two F' T')) (hn : n ≤ 1048576) (hn' : n' ≤ 1048576) :
    Calls Tryd.prog 30 #[.slice (some ⟨g, 0, none⟩) n n, .slice (some ⟨g', 0, none⟩) n' n'] w fun e w' => e = .returned (.bool (eqZ n n' F T F' T')) ∧ Below w.heap.size w w' := by
  have hg := hrow.lt
  have hg' := hrow'.lt
  by_cases h : n = n'
  · subst h
    go_enter Tryd.func30, Tryd.ntmps30
    go_wp2
    go_loopw [5] (fun i wr => ∃ k : Nat, k ≤ n ∧ i = .int .i64 k ∧ Below w.heap.size w wr ∧ ∀ i, i < k → eq2 (F i) (T i) (F' i) (T' i) = true) (fun i _ => n - (intOf i).toNat)
    case atStart => exact ⟨0, Nat.zero_le _, rfl, Below.refl _ _, fun i hi => by omega⟩
    case round =>
      obtain ⟨k, hk, rfl, hbel, hgood⟩ := hrel
      have HG : Hid (∀ i, i < k → eq2 (F i) (T i) (F' i) (T' i) = true) := hgood
      have HB : Hid (Below w.heap.size w wr) := hbel
      clear hgood
      by_cases hlt : k < n
      · have R := hrow.below hbel hg
        have R' := hrow'.below hbel hg'
        have c0 : wr.cell? ⟨g, k * 2, none⟩ = some (.int .i64 (F k)) := R.cell0 hlt (by omega)
        have c1 : wr.cell? ⟨g, k * 2 + 1, none⟩ = some (.int .i64 (T k)) := R.cell (j := 1) hlt (by omega)
        have c0' : wr.cell? ⟨g', k * 2, none⟩ = some (.int .i64 (F' k)) := R'.cell0 hlt (by omega)
        have c1' : wr.cell? ⟨g', k * 2 + 1, none⟩ = some (.int .i64 (T' k)) := R'.cell (j := 1) hlt (by omega)
        have hi : (k : Int) < (n : Int) := by omega
        clear R R' hbel hrow hrow'
        cases hq : eq2 (F k) (T k) (F' k) (T' k)
        · have HQ : Hid (eqZ n n F T F' T' = false) := eqZ_false hlt hq
          go_wp2
          go_region_with (go_at_call 51; refine (eqCounter_any _ _ _ _ _).mono ?_; rw [hq]; rintro e w1 ⟨rfl, hb1⟩)
          all_goals
            go_wp2
            go_ret
            exact ⟨by rw [HQ.out]; rfl, HB.out.drew.trans (hb1.mono (by simpa using HB.out.size))⟩
        · go_wp2
          go_region_with (go_at_call 51; refine (eqCounter_any _ _ _ _ _).mono ?_; rw [hq]; rintro e w1 ⟨rfl, hb1⟩)
          all_goals
            go_wp2
            go_roundw
            case rel => exact ⟨k + 1, by omega, by go_num, HB.out.drew.trans (hb1.mono (by simpa using HB.out.size)), eq_succ HG.out hq⟩
            case measure => simp [intOf]; omega
      · have HQ : Hid (eqZ n n F T F' T' = true) := eqZ_true rfl (fun i hi => HG.out i (by omega))
        go_wp2
        go_ret
        exact ⟨by rw [HQ.out]; rfl, HB.out⟩
  · have e1 : eqZ n n' F T F' T' = false := by simp [eqZ, h]
    have h' : ((n : Int) != (n' : Int)) = true := by simp; omega
    rw [e1]; clear e1 h
    go_enter Tryd.func30, Tryd.ntmps30
    go_wp2
    go_ret
    exact ⟨rfl, (by repeat (first | exact Below.refl _ _ | assumption | refine below_alloc ?_ _ | refine Below.setCell ?_ (by first | omega | (simp; done) | (simp; omega)) _ | refine Below.alloc ?_ (by first | omega | (simp; done) | (simp; omega)) _ | refine Below.drew ?_))⟩

/-- eqLayout at two layouts that hold the same. -/
theorem eqLayout_same (S : Int) (g g' n : Nat) (F T : Nat → Int) (w : World) (hrow : Row w g 81 2 n (two F T)) (hrow' : Row w g' 81 2 n (two F T)) (hn : n ≤ 1048576) :
    Calls Tryd.prog 12 #[.agg #[.int .i64 S, .slice (some ⟨g, 0, none⟩) n n], .agg #[.int .i64 S, .slice (some ⟨g', 0, none⟩) n n]] w fun e w' => e = .returned (.bool true) ∧ Below w.heap.size w w' := by
  have hc : ∀ o o', Calls Tryd.prog 30 #[.slice (some ⟨g, 0, none⟩) n n, .slice (some ⟨g', 0, none⟩) n n] ((w.alloc o).alloc o') fun e w' => e = .returned (.bool true) ∧ Below ((w.alloc o).alloc o').heap.size ((w.alloc o).alloc o') w' := fun o o' => by
    have := eqCounterS_any g g' n n F T F T _ ((hrow.alloc o).alloc o') ((hrow'.alloc o).alloc o') hn hn
    rw [eqZ_refl] at this; exact this
  clear hrow hrow'
  go_enter Tryd.func12, Tryd.ntmps12
  go_wp2_with (first | (go_at_call 30; refine (hc _ _).mono ?_; rintro e w1 ⟨rfl, hb1⟩))
  go_ret
  exact ⟨rfl, (show Below w.heap.size w _ from (by repeat (first | exact Below.refl _ _ | assumption | refine below_alloc ?_ _ | refine Below.setCell ?_ (by first | omega | (simp; done) | (simp; omega)) _ | refine Below.alloc ?_ (by first | omega | (simp; done) | (simp; omega)) _ | refine Below.drew ?_))).trans (hb1.mono (by first | omega | (simp; done) | (simp; omega)))⟩

end Go.Proofs.YtlpopfhaephfaabDoor
