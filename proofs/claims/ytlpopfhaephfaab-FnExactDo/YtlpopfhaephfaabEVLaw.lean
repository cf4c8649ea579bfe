import Derived.Test.YtlpopfhaephfaabW4
import Derived.Test.YtlpopfhaephfaabEV2
import Derived.ProofKit
import Derived.Deep.DeepCutAuto
namespace Go.Proofs.Ytlpopfhaephfaab
open Go.RowKit

set_option maxHeartbeats 400000 in
theorem toEvent_any (x y z : Int) (w : World) :
    Calls Try.prog 12 #[.agg #[.int .i64 x, .int .i64 y, .int .i64 z]] w fun e w' => e = .returned (.agg #[.int .i64 x, .int .i64 y, .int .i64 z]) ∧ Below w.heap.size w w' := by
  go_enter Try.func12, Try.ntmps12
  go_wp2
  exact bodyPost_ret (v := .agg #[.int .i64 x, .int .i64 y, .int .i64 z]) (by simp [results, Try.results12, go_sem]) rfl ⟨rfl, (by repeat (first | exact Below.refl _ _ | assumption | refine below_alloc ?_ _ | refine Below.setCell ?_ (by first | omega | (simp; done) | (simp; omega)) _ | refine Below.alloc ?_ (by first | omega | (simp; done) | (simp; omega)) _ | refine Below.drew ?_))⟩

theorem ev_great (S op f d : Int) (ao : Option Addr) (n cap : Nat) (w : World) (hl : n ≤ maxLen) (hn : ¬ (n : Int) ≤ 1048576) :
    Calls Try.prog 3 #[.agg #[.int .i64 S, .slice ao n cap], .agg #[.int .i64 op, .int .i64 f, .int .i64 d]] w fun e w' => e = .returned (.bool true) ∧ Below w.heap.size w w' := by
  go_enter Try.func3, Try.ntmps3
  go_wp2_with (first | (go_at_call 9; refine (szLayout_any _ _ _ _ _ hl).mono ?_; rw [if_neg hn]; rintro e w1 ⟨rfl, hb1⟩))
  go_ret
  exact ⟨rfl, (show Below w.heap.size w _ from (by repeat (first | exact Below.refl _ _ | assumption | refine below_alloc ?_ _ | refine Below.setCell ?_ (by first | omega | (simp; done) | (simp; omega)) _ | refine Below.alloc ?_ (by first | omega | (simp; done) | (simp; omega)) _ | refine Below.drew ?_))).trans (hb1.mono (by first | omega | (simp; done) | (simp; omega)))⟩

set_option maxHeartbeats 2000000 in
theorem ev_small (S op f d : Int) (ao : Option Addr) (n cap : Nat) (F T : Nat → Int) (w : World) (hn : (n : Int) ≤ 1048576) (h : Came w ao n F T) :
    Calls Try.prog 3 #[.agg #[.int .i64 S, .slice ao n cap], .agg #[.int .i64 op, .int .i64 f, .int .i64 d]] w fun e w' => e = .returned (.bool true) ∧ Below w.heap.size w w' := by
  have hn' : n ≤ 1048576 := by omega
  have hl : n ≤ maxLen := by unfold maxLen; omega
  obtain ⟨A, eA⟩ : ∃ A, (w.alloc (.cells #[.int .i64 S, .slice ao n cap] 24)).alloc (.cells #[.int .i64 op, .int .i64 f, .int .i64 d] 26) = A := ⟨_, rfl⟩
  have sA : A.heap.size = w.heap.size + 1 + 1 := by rw [← eA]; simp
  have b0 : Below w.heap.size w A := by rw [← eA]; exact (by repeat (first | exact Below.refl _ _ | assumption | refine below_alloc ?_ _ | refine Below.setCell ?_ (by first | omega | (simp; done) | (simp; omega)) _ | refine Below.alloc ?_ (by first | omega | (simp; done) | (simp; omega)) _ | refine Below.drew ?_))
  have hA : ∀ W, Below A.heap.size A W → Came W ao n F T ∧ W.cell? ⟨w.heap.size, 0, none⟩ = some (.int .i64 S) ∧ W.cell? ⟨w.heap.size, 1, none⟩ = some (.slice ao n cap) ∧ W.cell? ⟨w.heap.size + 1, 0, none⟩ = some (.int .i64 op) ∧ W.cell? ⟨w.heap.size + 1, 1, none⟩ = some (.int .i64 f) ∧ W.cell? ⟨w.heap.size + 1, 2, none⟩ = some (.int .i64 d) := fun W hb =>
    ⟨h.below (below_on b0 hb), (hb.cell (p := ⟨w.heap.size, 0, none⟩) (by simp; omega)).trans (by rw [← eA]; simp), (hb.cell (p := ⟨w.heap.size, 1, none⟩) (by simp; omega)).trans (by rw [← eA]; simp), (hb.cell (p := ⟨w.heap.size + 1, 0, none⟩) (by simp; omega)).trans (by rw [← eA]; simp), (hb.cell (p := ⟨w.heap.size + 1, 1, none⟩) (by simp; omega)).trans (by rw [← eA]; simp), (hb.cell (p := ⟨w.heap.size + 1, 2, none⟩) (by simp; omega)).trans (by rw [← eA]; simp)⟩
  obtain ⟨B, hB⟩ : ∃ B, evOk S n F T op f d = B := ⟨_, rfl⟩
  have cS := fun g W hr => specEventOk_any S op f d g n F T W hr
  have cI := fun g W hr => implEventOk_any S op f d g n F T W hr
  rw [hB] at cS cI
  have EA : Hid ((w.alloc (.cells #[.int .i64 S, .slice ao n cap] 24)).alloc (.cells #[.int .i64 op, .int .i64 f, .int .i64 d] 26) = A) := eA
  clear h hB eA
  go_enter Try.func3, Try.ntmps3
  go_wp2_with fail
  rw [EA.out]
  refine (szLayout_any _ _ _ _ _ hl).mono ?_
  rw [if_pos hn]
  rintro e w1 ⟨rfl, B1⟩
  go_upto_region 5 with fail
  go_cut [6] from 14 (fun q wc => q = .bool B ∧ Below A.heap.size A wc)
  case first =>
    have Bc : Below A.heap.size A w1.drew := B1.drew
    obtain ⟨mL, a0, a1, c0, c1, c2⟩ := hA _ Bc
    clear B1
    go_region_with (first
      | (go_at_call 11; refine (toLayout_any _ _ _ _ F T _ hn' mL).mono ?_; rintro e wL ⟨gL, rfl, hgL, rL, hbL⟩; have Bc := below_on Bc hbL; obtain ⟨mL, a0, a1, c0, c1, c2⟩ := hA _ Bc)
      | (go_at_call 12; refine (toEvent_any _ _ _ _).mono ?_; rintro e wE ⟨rfl, hbE⟩; have Bc := below_on Bc hbE; obtain ⟨mL, a0, a1, c0, c1, c2⟩ := hA _ Bc; (try have rL := rL.on hbE))
      | (go_at_call 10; refine (cS _ _ rL).mono ?_; rintro e w4 ⟨rfl, hb4⟩; have Bc := below_on Bc hb4))
    all_goals
      go_wp2_with fail
      go_meet
      case rel => exact ⟨rfl, Bc⟩
  case rest =>
    clear B1
    obtain ⟨rfl, B5⟩ := hcut
    obtain ⟨m5, a0, a1, c0, c1, c2⟩ := hA _ B5
    go_wp2_with fail
    refine (toLayout_any _ _ _ _ F T _ hn' m5).mono ?_
    rintro e w6 ⟨g6, rfl, hg6, r6, hb6⟩
    have B6 := below_on B5 hb6
    have r6' := r6.alloc (.cells #[.int .i64 S, .slice (some ⟨g6, 0, none⟩) n n] 31)
    have B6' := below_alloc B6 (.cells #[.int .i64 S, .slice (some ⟨g6, 0, none⟩) n n] 31)
    obtain ⟨V, eV⟩ : ∃ V, w6.alloc (.cells #[.int .i64 S, .slice (some ⟨g6, 0, none⟩) n n] 31) = V := ⟨_, rfl⟩
    have x0 : V.cell? ⟨w6.heap.size, 0, none⟩ = some (.int .i64 S) := by rw [← eV]; simp
    have x1 : V.cell? ⟨w6.heap.size, 1, none⟩ = some (.slice (some ⟨g6, 0, none⟩) n n) := by rw [← eV]; simp
    have q6 : w6.heap.size < V.heap.size := by rw [← eV]; simp
    have EV : Hid (w6.alloc (.cells #[.int .i64 S, .slice (some ⟨g6, 0, none⟩) n n] 31) = V) := eV
    rw [eV] at r6' B6'
    clear a0 a1 c0 c1 c2 m5 B5 B6 hb6 r6 eV
    go_upto_region 7 with fail
    rw [EV.out]
    go_cut [8] from 21 (fun q wc => q = .bool B ∧ Below A.heap.size A wc ∧ Row wc g6 88 2 n (two F T) ∧ wc.cell? ⟨w6.heap.size, 0, none⟩ = some (.int .i64 S) ∧ wc.cell? ⟨w6.heap.size, 1, none⟩ = some (.slice (some ⟨g6, 0, none⟩) n n) ∧ w6.heap.size < wc.heap.size)
    case first =>
      have Bc : Below A.heap.size A V.drew := B6'.drew
      have rL := r6'.drew
      have qc : w6.heap.size < V.drew.heap.size := q6
      have y0 : V.drew.cell? ⟨w6.heap.size, 0, none⟩ = some (.int .i64 S) := x0
      have y1 : V.drew.cell? ⟨w6.heap.size, 1, none⟩ = some (.slice (some ⟨g6, 0, none⟩) n n) := x1
      obtain ⟨mL, a0, a1, c0, c1, c2⟩ := hA _ Bc
      clear B6' r6' q6
      go_region_with (first
        | (go_at_call 12; refine (toEvent_any _ _ _ _).mono ?_; rintro e wE ⟨rfl, hbE⟩; have Bc := below_on Bc hbE; have y0 := (hbE.cell (p := ⟨w6.heap.size, 0, none⟩) qc).trans y0; have y1 := (hbE.cell (p := ⟨w6.heap.size, 1, none⟩) qc).trans y1; have qc := Nat.lt_of_lt_of_le qc hbE.size; obtain ⟨mL, a0, a1, c0, c1, c2⟩ := hA _ Bc; have rL := rL.on hbE)
        | (go_at_call 13; refine (cI _ _ rL).mono ?_; rintro e w4 ⟨rfl, hb4⟩; have Bc := below_on Bc hb4; have y0 := (hb4.cell (p := ⟨w6.heap.size, 0, none⟩) qc).trans y0; have y1 := (hb4.cell (p := ⟨w6.heap.size, 1, none⟩) qc).trans y1; have qc := Nat.lt_of_lt_of_le qc hb4.size; have rL := rL.on hb4))
      all_goals
        go_wp2_with fail
        go_meet
        case rel => exact ⟨rfl, Bc, rL, y0, y1, qc⟩
    case rest =>
      clear x0 x1 q6 B6' r6'
      obtain ⟨rfl, B8, r8, x0, x1, q8⟩ := hcut
      go_upto_region 10 with fail
      rename World => w8
      have Bc : Below A.heap.size A w8.drew := B8.drew
      have rL := r8.drew
      have qc : w6.heap.size < w8.drew.heap.size := q8
      have y0 : w8.drew.cell? ⟨w6.heap.size, 0, none⟩ = some (.int .i64 S) := x0
      have y1 : w8.drew.cell? ⟨w6.heap.size, 1, none⟩ = some (.slice (some ⟨g6, 0, none⟩) n n) := x1
      obtain ⟨mL, a0, a1, c0, c1, c2⟩ := hA _ Bc
      clear B8 r8 q8 x0 x1
      go_region_with (first
        | (go_at_call 11; refine (toLayout_any _ _ _ _ F T _ hn' mL).mono ?_; rintro e wL ⟨gL, rfl, hgL, rN, hbL⟩; have Bc := below_on Bc hbL; have y0 := (hbL.cell (p := ⟨w6.heap.size, 0, none⟩) qc).trans y0; have y1 := (hbL.cell (p := ⟨w6.heap.size, 1, none⟩) qc).trans y1; have rL := rL.on hbL)
        | (go_at_call 14; refine (eqLayout_same _ _ _ _ F T _ rL rN hn').mono ?_; rintro e w9 ⟨rfl, hb9⟩; have Bc := below_on Bc hb9))
      all_goals
        go_wp2
        go_ret
        exact ⟨rfl, below_on b0 Bc⟩

end Go.Proofs.Ytlpopfhaephfaab
