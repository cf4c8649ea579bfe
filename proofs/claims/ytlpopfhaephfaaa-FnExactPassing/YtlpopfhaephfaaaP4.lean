import Derived.Test.YtlpopfhaephfaaaP3
namespace Go.Proofs.Ytlpopfhaephfaaa
open Go.RowKit Go.Sort

open Classical in
theorem axlesOk_any (g n : Nat) (Z : Nat → Int) (w : World) (hn : n ≤ 1048576) (h1 : Blk w g 3 n (fun i => .int .i64 (Z i))) :
    Calls Try.prog 64 #[.slice (some ⟨g, 0, none⟩) n n] w fun e w' => e = .returned (.bool (decide (n ≤ 200 ∧ Asc n Z))) ∧ Below w.heap.size w w' := by
  have hc := ascend_some g n n n _ Z w hn h1 (Nat.le_refl _) (fun i _ => rfl)
  by_cases h : (n : Int) ≤ 200
  · have e1 : decide (n ≤ 200 ∧ Asc n Z) = decide (Asc n Z) := by have : n ≤ 200 := by omega
                                                                  simp [this]
    rw [e1]
    clear e1
    go_enter Try.func64, Try.ntmps64
    go_wp2_with fail
    refine hc.mono ?_
    rintro e w1 ⟨rfl, hb⟩
    go_wp2
    go_ret
    exact ⟨rfl, hb⟩
  · have e1 : decide (n ≤ 200 ∧ Asc n Z) = false := by have : ¬ n ≤ 200 := by omega
                                                       simp [this]
    rw [e1]
    clear e1 hc h1
    have h' : decide ((n : Int) ≤ 200) = false := by simpa using h
    go_enter Try.func64, Try.ntmps64
    go_wp2
    go_ret
    exact ⟨rfl, Below.refl _ _⟩

open Classical in
theorem stretchOk_any (from_ to_ : Int) (w : World) :
    Calls Try.prog 65 #[.int .i64 from_, .int .i64 to_] w fun e w' => e = .returned (.bool (decide (0 ≤ from_ ∧ from_ ≤ 1000000 ∧ from_ ≤ to_ ∧ to_ ≤ 1000000))) ∧ Below w.heap.size w w' := by
  have e1 : decide (0 ≤ from_ ∧ from_ ≤ 1000000 ∧ from_ ≤ to_ ∧ to_ ≤ 1000000) = decide (Asc 2 (fun i => if i = 0 then from_ else to_)) := by
    apply decide_eq_decide.2
    constructor
    · intro h i hi
      match i, hi with
      | 0, _ => simp [okAt, prevZ]; omega
      | 1, _ => simp [okAt, prevZ]; omega
    · intro h
      have h0 := h 0 (by omega)
      have h1 := h 1 (by omega)
      simp [okAt, prevZ] at h0 h1
      omega
  rw [e1]
  clear e1
  have hc := ascend_some w.heap.size 2 2 2 _ (fun i => if i = 0 then from_ else to_) (w.alloc (.cells #[.int .i64 from_, .int .i64 to_] 3)) (by omega) (Blk.new w #[.int .i64 from_, .int .i64 to_] 3 (fun i => .int .i64 (if i = 0 then from_ else to_)) (fun i hi => by match i, hi with | 0, _ => rfl | 1, _ => rfl)) (Nat.le_refl _) (fun i _ => rfl)
  go_enter Try.func65, Try.ntmps65
  go_wp2_with fail
  refine hc.mono ?_
  rintro e w1 ⟨rfl, hb⟩
  go_wp2
  go_ret
  exact ⟨rfl, below_on (by repeat (first | exact Below.refl _ _ | assumption | refine below_alloc ?_ _ | refine Below.setCell ?_ (by first | omega | (simp; done) | (simp; omega)) _ | refine Below.alloc ?_ (by first | omega | (simp; done) | (simp; omega)) _ | refine Below.drew ?_)) hb⟩

theorem dirOk_any (d : Int) (w : World) (b : Bool) (hb : b = decide (d = 1 ∨ d = -1)) :
    Calls Try.prog 105 #[.int .i64 d] w fun e w' => e = .returned (.bool b) ∧ Below w.heap.size w w' := by
  rcases (show d = 1 ∨ (d = -1) ∨ (¬ d = 1 ∧ ¬ d = -1) by omega) with rfl | rfl | ⟨h1, h2⟩
  · have : b = true := by rw [hb]; decide
    subst this; clear hb
    go_enter Try.func105, Try.ntmps105
    go_wp2
    go_ret
    exact ⟨rfl, Below.refl _ _⟩
  · have : b = true := by rw [hb]; decide
    subst this; clear hb
    go_enter Try.func105, Try.ntmps105
    go_wp2
    go_ret
    exact ⟨rfl, Below.refl _ _⟩
  · have : b = false := by rw [hb]; simp [h1, h2]
    have e1 : (d == 1) = false := by simpa using h1
    have e2 : (d == -1) = false := by simpa using h2
    subst this; clear hb h1 h2
    go_enter Try.func105, Try.ntmps105
    go_wp2
    go_ret
    exact ⟨rfl, Below.refl _ _⟩

theorem counterOk_any (S c : Int) (g n : Nat) (w : World) (b : Bool) (hb : b = decide (0 ≤ c ∧ c < (n : Int))) :
    Calls Try.prog 104 #[.agg #[.int .i64 S, .slice (some ⟨g, 0, none⟩) n n], .int .i64 c] w fun e w' => e = .returned (.bool b) ∧ Below w.heap.size w w' := by
  rcases (show c < 0 ∨ (0 ≤ c ∧ (n : Int) ≤ c) ∨ (0 ≤ c ∧ c < (n : Int)) by omega) with h | ⟨h, h1⟩ | ⟨h, h1⟩
  · have e : b = false := by rw [hb]; simp; omega
    subst e; clear hb
    go_enter Try.func104, Try.ntmps104
    go_wp2
    go_ret
    exact ⟨rfl, (by repeat (first | exact Below.refl _ _ | assumption | refine below_alloc ?_ _ | refine Below.setCell ?_ (by first | omega | (simp; done) | (simp; omega)) _ | refine Below.alloc ?_ (by first | omega | (simp; done) | (simp; omega)) _ | refine Below.drew ?_))⟩
  · have e : b = false := by rw [hb]; simp; omega
    have h2 : decide (c < (n : Int)) = false := by simp; omega
    subst e; clear hb
    go_enter Try.func104, Try.ntmps104
    go_wp2
    go_ret
    exact ⟨rfl, (by repeat (first | exact Below.refl _ _ | assumption | refine below_alloc ?_ _ | refine Below.setCell ?_ (by first | omega | (simp; done) | (simp; omega)) _ | refine Below.alloc ?_ (by first | omega | (simp; done) | (simp; omega)) _ | refine Below.drew ?_))⟩
  · have e : b = true := by rw [hb]; simp; omega
    have h2 : decide (c < (n : Int)) = true := by simp; omega
    subst e; clear hb
    go_enter Try.func104, Try.ntmps104
    go_wp2
    go_ret
    exact ⟨rfl, (by repeat (first | exact Below.refl _ _ | assumption | refine below_alloc ?_ _ | refine Below.setCell ?_ (by first | omega | (simp; done) | (simp; omega)) _ | refine Below.alloc ?_ (by first | omega | (simp; done) | (simp; omega)) _ | refine Below.drew ?_))⟩

set_option maxHeartbeats 1000000 in
theorem meet_any (gp ga nP nA k i : Nat) (P : Nat → Nat → Int) (Z : Nat → Int) (w : World) (hP : Row w gp 103 3 nP (ints P)) (hA : Blk w ga 3 nA (fun i => .int .i64 (Z i))) (hk : k < nA) (hi : i < nP)
    (b1 : 0 ≤ P i 0) (b2 : P i 0 ≤ 1000000) (b3 : 0 ≤ Z k) (b4 : Z k ≤ 1000000) :
    Calls Try.prog 70 #[.slice (some ⟨gp, 0, none⟩) nP nP, .slice (some ⟨ga, 0, none⟩) nA nA, .int .i64 k, .int .i64 i] w fun e w' => e = .returned (.agg #[.int .i64 (P i 0 + Z k), .int .i64 k, .int .i64 i]) ∧ Below w.heap.size w w' := by
  have c0 : w.cell? ⟨gp, i * 3, none⟩ = some (.int .i64 (P i 0)) := hP.cell0 hi (by omega)
  have c1 : w.cell? ⟨ga, k, none⟩ = some (.int .i64 (Z k)) := hA.cell hk
  have l1 := hP.lt
  have l2 := hA.lt
  have i1 : (k : Int) < (nA : Int) := by omega
  have i2 : (i : Int) < (nP : Int) := by omega
  obtain ⟨x, hx⟩ : ∃ x, P i 0 = x := ⟨_, rfl⟩
  obtain ⟨y, hy⟩ : ∃ y, Z k = y := ⟨_, rfl⟩
  rw [hx] at c0 b1 b2 ⊢
  rw [hy] at c1 b3 b4 ⊢
  clear hx hy hP hA
  go_enter Try.func70, Try.ntmps70
  go_wp2
  go_region
  all_goals
    go_wp2
    exact bodyPost_ret (v := .agg #[.int .i64 (x + y), .int .i64 k, .int .i64 i]) (by simp [results, Try.results70, go_sem]) rfl ⟨rfl, (by repeat (first | exact Below.refl _ _ | assumption | refine below_alloc ?_ _ | refine Below.setCell ?_ (by first | omega | (simp; done) | (simp; omega)) _ | refine Below.alloc ?_ (by first | omega | (simp; done) | (simp; omega)) _ | refine Below.drew ?_))⟩

end Go.Proofs.Ytlpopfhaephfaaa
