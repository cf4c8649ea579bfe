import Derived.Test.YtlpopfhaephfaabDoorST4
namespace Go.Proofs.YtlpopfhaephfaabDoor
open Go.RowKit

/-- Whether a right layout with S sections and n counters has the event. -/
def evB (S : Int) (n : Nat) (op f d : Int) : Bool :=
  if op = 1 ∨ op = 2 then decide (0 ≤ f ∧ f < (n : Int) ∧ (d = 1 ∨ d = -1))
  else if op = 3 ∨ op = 4 then decide (0 ≤ f ∧ f < (n : Int) ∧ d = 0)
  else if op = 5 then decide (0 ≤ f ∧ f < S ∧ d = 0) else false


/-- The event as a value of the interface, where its Op and Dir go together. -/
def hapV (op f d : Int) : Value :=
  if d = 1 ∨ d = -1 then if op = 1 then .iface 131 (.agg #[.int .i64 f, .int .i64 d]) else if op = 2 then .iface 132 (.agg #[.int .i64 f, .int .i64 d]) else .nilIface
  else if d = 0 then if op = 3 then .iface 134 (.agg #[.int .i64 f]) else if op = 4 then .iface 135 (.agg #[.int .i64 f]) else if op = 5 then .iface 113 (.agg #[.int .i64 f]) else .nilIface
  else .nilIface

set_option maxHeartbeats 1000000 in
theorem happens_any (op f d : Int) (w : World) :
    Calls Tryd.prog 54 #[.agg #[.int .i64 op, .int .i64 f, .int .i64 d]] w fun e w' => e = .returned (hapV op f d) ∧ Below w.heap.size w w' := by
  rcases (show d = 1 ∨ d = -1 ∨ d = 0 ∨ (¬ d = 1 ∧ ¬ d = -1 ∧ ¬ d = 0) by omega) with rfl | rfl | rfl | ⟨h1, h2, h3⟩
  · rcases (show op = 1 ∨ op = 2 ∨ (¬ op = 1 ∧ ¬ op = 2) by omega) with rfl | rfl | ⟨k1, k2⟩
    all_goals
      go_enter Tryd.func54, Tryd.ntmps54
      go_wp2
      go_ret
      exact ⟨by simp [hapV, *], (by repeat (first | exact Below.refl _ _ | assumption | refine below_alloc ?_ _ | refine Below.setCell ?_ (by first | omega | (simp; done) | (simp; omega)) _ | refine Below.alloc ?_ (by first | omega | (simp; done) | (simp; omega)) _ | refine Below.drew ?_))⟩
  · rcases (show op = 1 ∨ op = 2 ∨ (¬ op = 1 ∧ ¬ op = 2) by omega) with rfl | rfl | ⟨k1, k2⟩
    all_goals
      go_enter Tryd.func54, Tryd.ntmps54
      go_wp2
      go_ret
      exact ⟨by simp [hapV, *], (by repeat (first | exact Below.refl _ _ | assumption | refine below_alloc ?_ _ | refine Below.setCell ?_ (by first | omega | (simp; done) | (simp; omega)) _ | refine Below.alloc ?_ (by first | omega | (simp; done) | (simp; omega)) _ | refine Below.drew ?_))⟩
  · rcases (show op = 3 ∨ op = 4 ∨ op = 5 ∨ (¬ op = 3 ∧ ¬ op = 4 ∧ ¬ op = 5) by omega) with rfl | rfl | rfl | ⟨k1, k2, k3⟩
    all_goals
      go_enter Tryd.func54, Tryd.ntmps54
      go_wp2
      go_ret
      exact ⟨by simp [hapV, *], (by repeat (first | exact Below.refl _ _ | assumption | refine below_alloc ?_ _ | refine Below.setCell ?_ (by first | omega | (simp; done) | (simp; omega)) _ | refine Below.alloc ?_ (by first | omega | (simp; done) | (simp; omega)) _ | refine Below.drew ?_))⟩
  · have k1 : (d != 0) = true := by simp [h3]
    have k2 : (d == 1) = false := by simp [h1]
    have k3 : (d == -1) = false := by simp [h2]
    have e1 : hapV op f d = .nilIface := by simp [hapV, h1, h2, h3]
    rw [e1]
    clear h1 h2 h3 e1
    go_enter Tryd.func54, Tryd.ntmps54
    go_wp2
    go_ret
    exact ⟨rfl, (by repeat (first | exact Below.refl _ _ | assumption | refine below_alloc ?_ _ | refine Below.setCell ?_ (by first | omega | (simp; done) | (simp; omega)) _ | refine Below.alloc ?_ (by first | omega | (simp; done) | (simp; omega)) _ | refine Below.drew ?_))⟩

/-- What happensIn answers. -/
def hapI (S : Int) (n : Nat) (op f d : Int) : Value := if evB S n op f d then hapV op f d else .nilIface

set_option maxRecDepth 100000 in
set_option maxHeartbeats 1000000 in
theorem happensIn_nil (S op f d : Int) (n g : Nat) (w : World) (hv : hapV op f d = .nilIface) :
    Calls Tryd.prog 34 #[.agg #[.int .i64 S, .slice (some ⟨g, 0, none⟩) n n], .agg #[.int .i64 op, .int .i64 f, .int .i64 d]] w fun e w' => e = .returned .nilIface ∧ Below w.heap.size w w' := by
  go_enter Tryd.func34, Tryd.ntmps34
  go_wp2_with fail
  refine (happens_any _ _ _ _).mono ?_
  rintro e w1 ⟨rfl, hb1⟩
  rw [hv]
  obtain ⟨q1, q2⟩ := bcell hb1
  have B1 := below_on (show Below w.heap.size w _ from (by repeat (first | exact Below.refl _ _ | assumption | refine below_alloc ?_ _ | refine Below.setCell ?_ (by first | omega | (simp; done) | (simp; omega)) _ | refine Below.alloc ?_ (by first | omega | (simp; done) | (simp; omega)) _ | refine Below.drew ?_))) hb1
  go_wp2
  go_ret
  exact ⟨rfl, B1⟩

set_option maxRecDepth 100000 in
set_option maxHeartbeats 1000000 in
theorem happensIn_pass (t : Nat) (ht : t = 131 ∨ t = 132) (S op f d : Int) (n g : Nat) (w : World) (hv : hapV op f d = .iface t (.agg #[.int .i64 f, .int .i64 d])) (_hn : n ≤ 120) :
    Calls Tryd.prog 34 #[.agg #[.int .i64 S, .slice (some ⟨g, 0, none⟩) n n], .agg #[.int .i64 op, .int .i64 f, .int .i64 d]] w fun e w' => e = .returned (if 0 ≤ f ∧ f < (n : Int) then .iface t (.agg #[.int .i64 f, .int .i64 d]) else .nilIface) ∧ Below w.heap.size w w' := by
  have hm : ∀ w : World, (method 325 t (.agg #[.int .i64 f, .int .i64 d]) "loop.example/treadle/impl.isIn").run Tryd.prog w = .ok (145, .agg #[.int .i64 f, .int .i64 d]) w := by
    rcases ht with rfl | rfl
    · exact fun _ => by kernel_rfl
    · exact fun _ => by kernel_rfl
  rcases ht with rfl | rfl
  all_goals
    rcases (show f < 0 ∨ (0 ≤ f ∧ decide (f < (n : Int)) = false) ∨ (0 ≤ f ∧ f < (n : Int)) by simp; omega) with h1 | ⟨h1, h2⟩ | ⟨h1, h2⟩
    all_goals
      first
        | rw [if_pos (show 0 ≤ f ∧ f < (n : Int) from ⟨h1, h2⟩)]
        | rw [if_neg (show ¬ (0 ≤ f ∧ f < (n : Int)) by omega)]
        | rw [if_neg (show ¬ (0 ≤ f ∧ f < (n : Int)) by simp only [decide_eq_false_iff_not] at h2; omega)]
      go_enter Tryd.func34, Tryd.ntmps34
      go_wp2_with fail
      refine (happens_any _ _ _ _).mono ?_
      rintro e w1 ⟨rfl, hb1⟩
      rw [hv]
      obtain ⟨q1, q2⟩ := bcell hb1
      have B1 := below_on (show Below w.heap.size w _ from (by repeat (first | exact Below.refl _ _ | assumption | refine below_alloc ?_ _ | refine Below.setCell ?_ (by first | omega | (simp; done) | (simp; omega)) _ | refine Below.alloc ?_ (by first | omega | (simp; done) | (simp; omega)) _ | refine Below.drew ?_))) hb1
      have l1 := hb1.size
      simp only [World.size_alloc] at l1
      clear hb1
      go_wp2
      go_ret
      exact ⟨rfl, (by repeat (first | exact Below.refl _ _ | assumption | refine below_alloc ?_ _ | refine Below.setCell ?_ (by first | omega | (simp; done) | (simp; omega)) _ | refine Below.alloc ?_ (by first | omega | (simp; done) | (simp; omega)) _ | refine Below.drew ?_))⟩

set_option maxRecDepth 100000 in
set_option maxHeartbeats 1000000 in
theorem happensIn_count (t u : Nat) (ht : (t = 134 ∧ u = 147) ∨ (t = 135 ∧ u = 148)) (S op f d : Int) (n g : Nat) (w : World) (hv : hapV op f d = .iface t (.agg #[.int .i64 f])) (_hn : n ≤ 120) :
    Calls Tryd.prog 34 #[.agg #[.int .i64 S, .slice (some ⟨g, 0, none⟩) n n], .agg #[.int .i64 op, .int .i64 f, .int .i64 d]] w fun e w' => e = .returned (if 0 ≤ f ∧ f < (n : Int) then .iface t (.agg #[.int .i64 f]) else .nilIface) ∧ Below w.heap.size w w' := by
  have hm : ∀ w : World, (method 325 t (.agg #[.int .i64 f]) "loop.example/treadle/impl.isIn").run Tryd.prog w = .ok (u, .agg #[.int .i64 f]) w := by
    rcases ht with ⟨rfl, rfl⟩ | ⟨rfl, rfl⟩
    · exact fun _ => by kernel_rfl
    · exact fun _ => by kernel_rfl
  rcases ht with ⟨rfl, rfl⟩ | ⟨rfl, rfl⟩
  all_goals
    rcases (show f < 0 ∨ (0 ≤ f ∧ decide (f < (n : Int)) = false) ∨ (0 ≤ f ∧ f < (n : Int)) by simp; omega) with h1 | ⟨h1, h2⟩ | ⟨h1, h2⟩
    all_goals
      first
        | rw [if_pos (show 0 ≤ f ∧ f < (n : Int) from ⟨h1, h2⟩)]
        | rw [if_neg (show ¬ (0 ≤ f ∧ f < (n : Int)) by omega)]
        | rw [if_neg (show ¬ (0 ≤ f ∧ f < (n : Int)) by simp only [decide_eq_false_iff_not] at h2; omega)]
      go_enter Tryd.func34, Tryd.ntmps34
      go_wp2_with fail
      refine (happens_any _ _ _ _).mono ?_
      rintro e w1 ⟨rfl, hb1⟩
      rw [hv]
      obtain ⟨q1, q2⟩ := bcell hb1
      have B1 := below_on (show Below w.heap.size w _ from (by repeat (first | exact Below.refl _ _ | assumption | refine below_alloc ?_ _ | refine Below.setCell ?_ (by first | omega | (simp; done) | (simp; omega)) _ | refine Below.alloc ?_ (by first | omega | (simp; done) | (simp; omega)) _ | refine Below.drew ?_))) hb1
      have l1 := hb1.size
      simp only [World.size_alloc] at l1
      clear hb1
      go_wp2
      go_ret
      exact ⟨rfl, (by repeat (first | exact Below.refl _ _ | assumption | refine below_alloc ?_ _ | refine Below.setCell ?_ (by first | omega | (simp; done) | (simp; omega)) _ | refine Below.alloc ?_ (by first | omega | (simp; done) | (simp; omega)) _ | refine Below.drew ?_))⟩

set_option maxRecDepth 100000 in
set_option maxHeartbeats 1000000 in
theorem happensIn_reset (S op f d : Int) (n g : Nat) (w : World) (hv : hapV op f d = .iface 113 (.agg #[.int .i64 f])) :
    Calls Tryd.prog 34 #[.agg #[.int .i64 S, .slice (some ⟨g, 0, none⟩) n n], .agg #[.int .i64 op, .int .i64 f, .int .i64 d]] w fun e w' => e = .returned (if 0 ≤ f ∧ f < S then .iface 113 (.agg #[.int .i64 f]) else .nilIface) ∧ Below w.heap.size w w' := by
  have hm : ∀ w : World, (method 325 113 (.agg #[.int .i64 f]) "loop.example/treadle/impl.isIn").run Tryd.prog w = .ok (132, .agg #[.int .i64 f]) w := fun _ => by kernel_rfl
  rcases (show f < 0 ∨ (0 ≤ f ∧ decide (f < S) = false) ∨ (0 ≤ f ∧ f < S) by simp; omega) with h1 | ⟨h1, h2⟩ | ⟨h1, h2⟩
  all_goals
    first
      | rw [if_pos (show 0 ≤ f ∧ f < S from ⟨h1, h2⟩)]
      | rw [if_neg (show ¬ (0 ≤ f ∧ f < S) by omega)]
      | rw [if_neg (show ¬ (0 ≤ f ∧ f < S) by simp only [decide_eq_false_iff_not] at h2; omega)]
    go_enter Tryd.func34, Tryd.ntmps34
    go_wp2_with fail
    refine (happens_any _ _ _ _).mono ?_
    rintro e w1 ⟨rfl, hb1⟩
    rw [hv]
    obtain ⟨q1, q2⟩ := bcell hb1
    have B1 := below_on (show Below w.heap.size w _ from (by repeat (first | exact Below.refl _ _ | assumption | refine below_alloc ?_ _ | refine Below.setCell ?_ (by first | omega | (simp; done) | (simp; omega)) _ | refine Below.alloc ?_ (by first | omega | (simp; done) | (simp; omega)) _ | refine Below.drew ?_))) hb1
    have l1 := hb1.size
    simp only [World.size_alloc] at l1
    clear hb1
    go_wp2
    go_ret
    exact ⟨rfl, (by repeat (first | exact Below.refl _ _ | assumption | refine below_alloc ?_ _ | refine Below.setCell ?_ (by first | omega | (simp; done) | (simp; omega)) _ | refine Below.alloc ?_ (by first | omega | (simp; done) | (simp; omega)) _ | refine Below.drew ?_))⟩

theorem hapI_pass {S : Int} {n : Nat} {op f d : Int} {v : Value} (h : (op = 1 ∨ op = 2) ∧ (d = 1 ∨ d = -1)) (hv : hapV op f d = v) : hapI S n op f d = if 0 ≤ f ∧ f < (n : Int) then v else .nilIface := by
  have hd : d = 1 ∨ d = -1 := h.2
  unfold hapI evB
  rw [if_pos h.1, hv]
  simp [hd]

theorem hapI_count {S : Int} {n : Nat} {op f d : Int} {v : Value} (h : (op = 3 ∨ op = 4) ∧ d = 0) (hv : hapV op f d = v) : hapI S n op f d = if 0 ≤ f ∧ f < (n : Int) then v else .nilIface := by
  have hd : d = 0 := h.2
  unfold hapI evB
  rw [if_neg (show ¬ (op = 1 ∨ op = 2) by omega), if_pos h.1, hv]
  simp [hd]

theorem hapI_reset {S : Int} {n : Nat} {op f d : Int} {v : Value} (h : op = 5 ∧ d = 0) (hv : hapV op f d = v) : hapI S n op f d = if 0 ≤ f ∧ f < S then v else .nilIface := by
  have hd : d = 0 := h.2
  unfold hapI evB
  rw [if_neg (show ¬ (op = 1 ∨ op = 2) by omega), if_neg (show ¬ (op = 3 ∨ op = 4) by omega), if_pos h.1, hv]
  simp [hd]

/-- The event as a value of the interface, or nil where it is none. -/
theorem happensIn_any (S op f d : Int) (n g : Nat) (w : World) (hn : n ≤ 120) :
    Calls Tryd.prog 34 #[.agg #[.int .i64 S, .slice (some ⟨g, 0, none⟩) n n], .agg #[.int .i64 op, .int .i64 f, .int .i64 d]] w fun e w' => e = .returned (hapI S n op f d) ∧ Below w.heap.size w w' := by
  by_cases h1 : (op = 1 ∨ op = 2) ∧ (d = 1 ∨ d = -1)
  · rcases h1 with ⟨rfl | rfl, hd⟩
    · have hv : hapV 1 f d = .iface 131 (.agg #[.int .i64 f, .int .i64 d]) := by simp [hapV, hd]
      rw [hapI_pass ⟨.inl rfl, hd⟩ hv]
      exact happensIn_pass _ (.inl rfl) S 1 f d n g w hv hn
    · have hv : hapV 2 f d = .iface 132 (.agg #[.int .i64 f, .int .i64 d]) := by simp [hapV, hd]
      rw [hapI_pass ⟨.inr rfl, hd⟩ hv]
      exact happensIn_pass _ (.inr rfl) S 2 f d n g w hv hn
  · by_cases h2 : (op = 3 ∨ op = 4) ∧ d = 0
    · rcases h2 with ⟨rfl | rfl, rfl⟩
      · have hv : hapV 3 f 0 = .iface 134 (.agg #[.int .i64 f]) := by simp [hapV]
        rw [hapI_count ⟨.inl rfl, rfl⟩ hv]
        exact happensIn_count _ _ (.inl ⟨rfl, rfl⟩) S 3 f 0 n g w hv hn
      · have hv : hapV 4 f 0 = .iface 135 (.agg #[.int .i64 f]) := by simp [hapV]
        rw [hapI_count ⟨.inr rfl, rfl⟩ hv]
        exact happensIn_count _ _ (.inr ⟨rfl, rfl⟩) S 4 f 0 n g w hv hn
    · by_cases h3 : op = 5 ∧ d = 0
      · rcases h3 with ⟨rfl, rfl⟩
        have hv : hapV 5 f 0 = .iface 113 (.agg #[.int .i64 f]) := by simp [hapV]
        rw [hapI_reset ⟨rfl, rfl⟩ hv]
        exact happensIn_reset S 5 f 0 n g w hv
      · have hv : hapV op f d = .nilIface := by
          unfold hapV
          by_cases a : d = 1 ∨ d = -1
          · rw [if_pos a, if_neg (by omega), if_neg (by omega)]
          · rw [if_neg a]
            by_cases b : d = 0
            · rw [if_pos b, if_neg (by omega), if_neg (by omega), if_neg (by omega)]
            · rw [if_neg b]
        have e : hapI S n op f d = .nilIface := by unfold hapI; rw [hv]; simp
        rw [e]
        exact happensIn_nil S op f d n g w hv

end Go.Proofs.YtlpopfhaephfaabDoor
