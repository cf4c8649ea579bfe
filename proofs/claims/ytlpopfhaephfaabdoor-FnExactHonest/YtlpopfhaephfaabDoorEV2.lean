import Derived.Test.YtlpopfhaephfaabDoorEV1
namespace Go.Proofs.YtlpopfhaephfaabDoor
open Go.RowKit

/-- What EventOk answers. -/
def evOk (S : Int) (n : Nat) (F T : Nat → Int) (op f d : Int) : Bool := (lokZ S n F T == 0) && evB S n op f d

set_option maxHeartbeats 1000000 in
theorem specEventOk_any (S op f d : Int) (g n : Nat) (F T : Nat → Int) (w : World) (hrow : Row w g 81 2 n (two F T)) :
    Calls Tryd.prog 25 #[.agg #[.int .i64 S, .slice (some ⟨g, 0, none⟩) n n], .agg #[.int .i64 op, .int .i64 f, .int .i64 d]] w fun e w' => e = .returned (.bool (evOk S n F T op f d)) ∧ Below w.heap.size w w' := by
  by_cases hl : lokZ S n F T = 0
  · obtain ⟨a1, a2, a3⟩ := lok_range hl
    have hc := fun o o' => specLayoutOk_any S g n F T _ ((hrow.alloc o).alloc o')
    rw [hl] at hc
    have e0 : evOk S n F T op f d = evB S n op f d := by simp [evOk, hl]
    rw [e0]
    clear e0 hl hrow
    rcases (show op = 1 ∨ op = 2 ∨ op = 3 ∨ op = 4 ∨ op = 5 ∨ (¬ op = 1 ∧ ¬ op = 2 ∧ ¬ op = 3 ∧ ¬ op = 4 ∧ ¬ op = 5) by omega) with rfl | rfl | rfl | rfl | rfl | ⟨b1, b2, b3, b4, b5⟩
    iterate 2
      · rcases (show f < 0 ∨ (0 ≤ f ∧ (n : Int) - 1 < f) ∨ (0 ≤ f ∧ f ≤ (n : Int) - 1 ∧ d = 1) ∨ (0 ≤ f ∧ f ≤ (n : Int) - 1 ∧ d = -1) ∨ (0 ≤ f ∧ f ≤ (n : Int) - 1 ∧ ¬ d = 1 ∧ ¬ d = -1) by omega) with h1 | ⟨h1, h2⟩ | ⟨h1, h2, h3⟩ | ⟨h1, h2, h3⟩ | ⟨h1, h2, h3, h4⟩
        all_goals
          first
            | (have eb : evB S n 1 f d = false := by simp [evB]; omega
               rw [eb])
            | (have eb : evB S n 1 f d = true := by simp [evB]; omega
               rw [eb])
            | (have eb : evB S n 2 f d = false := by simp [evB]; omega
               rw [eb])
            | (have eb : evB S n 2 f d = true := by simp [evB]; omega
               rw [eb])
          clear eb
          go_enter Tryd.func25, Tryd.ntmps25
          go_wp2_with fail
          refine (hc _ _).mono ?_
          rintro e w1 ⟨rfl, hb1⟩
          obtain ⟨q1, q2⟩ := bcell hb1
          have B1 := below_on (show Below w.heap.size w _ from (by repeat (first | exact Below.refl _ _ | assumption | refine below_alloc ?_ _ | refine Below.setCell ?_ (by first | omega | (simp; done) | (simp; omega)) _ | refine Below.alloc ?_ (by first | omega | (simp; done) | (simp; omega)) _ | refine Below.drew ?_))) hb1
          clear hb1
          go_wp2
          go_ret
          exact ⟨by first | rfl | (simp [*]; done), B1⟩
    iterate 2
      · rcases (show f < 0 ∨ (0 ≤ f ∧ (n : Int) - 1 < f) ∨ (0 ≤ f ∧ f ≤ (n : Int) - 1 ∧ d = 0) ∨ (0 ≤ f ∧ f ≤ (n : Int) - 1 ∧ ¬ d = 0) by omega) with h1 | ⟨h1, h2⟩ | ⟨h1, h2, h3⟩ | ⟨h1, h2, h3⟩
        all_goals
          first
            | (have eb : evB S n 3 f d = false := by simp [evB]; omega
               rw [eb])
            | (have eb : evB S n 3 f d = true := by simp [evB]; omega
               rw [eb])
            | (have eb : evB S n 4 f d = false := by simp [evB]; omega
               rw [eb])
            | (have eb : evB S n 4 f d = true := by simp [evB]; omega
               rw [eb])
          clear eb
          go_enter Tryd.func25, Tryd.ntmps25
          go_wp2_with fail
          refine (hc _ _).mono ?_
          rintro e w1 ⟨rfl, hb1⟩
          obtain ⟨q1, q2⟩ := bcell hb1
          have B1 := below_on (show Below w.heap.size w _ from (by repeat (first | exact Below.refl _ _ | assumption | refine below_alloc ?_ _ | refine Below.setCell ?_ (by first | omega | (simp; done) | (simp; omega)) _ | refine Below.alloc ?_ (by first | omega | (simp; done) | (simp; omega)) _ | refine Below.drew ?_))) hb1
          clear hb1
          go_wp2
          go_ret
          exact ⟨by first | rfl | (simp [*]; done), B1⟩
    · rcases (show f < 0 ∨ (0 ≤ f ∧ S - 1 < f) ∨ (0 ≤ f ∧ f ≤ S - 1 ∧ d = 0) ∨ (0 ≤ f ∧ f ≤ S - 1 ∧ ¬ d = 0) by omega) with h1 | ⟨h1, h2⟩ | ⟨h1, h2, h3⟩ | ⟨h1, h2, h3⟩
      all_goals
        first
          | (have eb : evB S n 5 f d = false := by simp [evB]; omega
             rw [eb])
          | (have eb : evB S n 5 f d = true := by simp [evB]; omega
             rw [eb])
        clear eb
        go_enter Tryd.func25, Tryd.ntmps25
        go_wp2_with fail
        refine (hc _ _).mono ?_
        rintro e w1 ⟨rfl, hb1⟩
        obtain ⟨q1, q2⟩ := bcell hb1
        have B1 := below_on (show Below w.heap.size w _ from (by repeat (first | exact Below.refl _ _ | assumption | refine below_alloc ?_ _ | refine Below.setCell ?_ (by first | omega | (simp; done) | (simp; omega)) _ | refine Below.alloc ?_ (by first | omega | (simp; done) | (simp; omega)) _ | refine Below.drew ?_))) hb1
        clear hb1
        go_wp2
        go_ret
        exact ⟨by first | rfl | (simp [*]; done), B1⟩
    · have eb : evB S n op f d = false := by simp [evB, b1, b2, b3, b4, b5]
      rw [eb]
      clear eb
      go_enter Tryd.func25, Tryd.ntmps25
      go_wp2_with fail
      refine (hc _ _).mono ?_
      rintro e w1 ⟨rfl, hb1⟩
      obtain ⟨q1, q2⟩ := bcell hb1
      have B1 := below_on (show Below w.heap.size w _ from (by repeat (first | exact Below.refl _ _ | assumption | refine below_alloc ?_ _ | refine Below.setCell ?_ (by first | omega | (simp; done) | (simp; omega)) _ | refine Below.alloc ?_ (by first | omega | (simp; done) | (simp; omega)) _ | refine Below.drew ?_))) hb1
      clear hb1
      go_wp2
      go_ret
      exact ⟨rfl, B1⟩
  · have hl' : (lokZ S n F T != 0) = true := by simpa [bne] using hl
    have e0 : evOk S n F T op f d = false := by simp [evOk, hl]
    rw [e0]
    clear e0 hl
    go_enter Tryd.func25, Tryd.ntmps25
    go_wp2_with fail
    refine (specLayoutOk_any _ _ _ F T _ ((hrow.alloc _).alloc _)).mono ?_
    rintro e w1 ⟨rfl, hb1⟩
    have B1 := below_on (show Below w.heap.size w _ from (by repeat (first | exact Below.refl _ _ | assumption | refine below_alloc ?_ _ | refine Below.setCell ?_ (by first | omega | (simp; done) | (simp; omega)) _ | refine Below.alloc ?_ (by first | omega | (simp; done) | (simp; omega)) _ | refine Below.drew ?_))) hb1
    go_wp2
    go_ret
    exact ⟨rfl, B1⟩

theorem hap_ne {S : Int} {n : Nat} {op f d : Int} (h : evB S n op f d = true) : ∃ t v, hapI S n op f d = .iface t v := by
  unfold hapI; rw [if_pos h]
  unfold evB at h
  unfold hapV
  by_cases h1 : op = 1 ∨ op = 2
  · rw [if_pos h1] at h
    simp only [decide_eq_true_eq] at h
    rw [if_pos h.2.2]
    rcases h1 with rfl | rfl
    · exact ⟨_, _, rfl⟩
    · exact ⟨_, _, rfl⟩
  · rw [if_neg h1] at h
    by_cases h2 : op = 3 ∨ op = 4
    · rw [if_pos h2] at h
      simp only [decide_eq_true_eq] at h
      obtain ⟨_, _, rfl⟩ := h
      rw [if_neg (by omega), if_pos rfl]
      rcases h2 with rfl | rfl
      · exact ⟨_, _, rfl⟩
      · exact ⟨_, _, rfl⟩
    · rw [if_neg h2] at h
      by_cases h3 : op = 5
      · rw [if_pos h3] at h
        simp only [decide_eq_true_eq] at h
        obtain ⟨_, _, rfl⟩ := h
        subst h3
        rw [if_neg (by omega), if_pos rfl]
        exact ⟨_, _, rfl⟩
      · rw [if_neg h3] at h; cases h

end Go.Proofs.YtlpopfhaephfaabDoor
