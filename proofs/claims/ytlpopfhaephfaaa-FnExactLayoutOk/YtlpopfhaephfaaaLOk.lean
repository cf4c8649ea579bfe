import Derived.Test.YtlpopfhaephfaaaW4
import Derived.ProofKit
namespace Go.Proofs.Ytlpopfhaephfaaa
open Go.RowKit

theorem lok_great (S : Int) (ao : Option Addr) (n cap : Nat) (w : World) (hl : n ≤ maxLen) (hn : ¬ (n : Int) ≤ 1048576) :
    Calls Try.prog 7 #[.agg #[.int .i64 S, .slice ao n cap]] w fun e w' => e = .returned (.bool true) ∧ Below w.heap.size w w' := by
  go_enter Try.func7, Try.ntmps7
  go_wp2_with (first | (go_at_call 23; refine (szLayout_any _ _ _ _ _ hl).mono ?_; rw [if_neg hn]; rintro e w1 ⟨rfl, hb1⟩))
  go_ret
  exact ⟨rfl, (show Below w.heap.size w _ from (by repeat (first | exact Below.refl _ _ | assumption | refine below_alloc ?_ _ | refine Below.setCell ?_ (by first | omega | (simp; done) | (simp; omega)) _ | refine Below.alloc ?_ (by first | omega | (simp; done) | (simp; omega)) _ | refine Below.drew ?_))).trans (hb1.mono (by first | omega | (simp; done) | (simp; omega)))⟩

set_option maxHeartbeats 1000000 in
theorem lok_small (S : Int) (ao : Option Addr) (n cap : Nat) (F T : Nat → Int) (w : World) (hn : (n : Int) ≤ 1048576) (h : Came w ao n F T) :
    Calls Try.prog 7 #[.agg #[.int .i64 S, .slice ao n cap]] w fun e w' => e = .returned (.bool true) ∧ Below w.heap.size w w' := by
  have hn' : n ≤ 1048576 := by omega
  have hl : n ≤ maxLen := by unfold maxLen; omega
  have hA : ∀ W, Below (w.alloc (.cells #[.int .i64 S, .slice ao n cap] 59)).heap.size (w.alloc (.cells #[.int .i64 S, .slice ao n cap] 59)) W → Came W ao n F T ∧ W.cell? ⟨w.heap.size, 0, none⟩ = some (.int .i64 S) ∧ W.cell? ⟨w.heap.size, 1, none⟩ = some (.slice ao n cap) ∧ w.heap.size < W.heap.size := fun W hb =>
    ⟨h.below (below_on (below_alloc (Below.refl _ _) _) hb), (hb.cell (p := ⟨w.heap.size, 0, none⟩) (by first | omega | (simp; done) | (simp; omega))).trans (by simp), (hb.cell (p := ⟨w.heap.size, 1, none⟩) (by first | omega | (simp; done) | (simp; omega))).trans (by simp), by have := hb.size; simp at this; omega⟩
  have hE : ∀ W, Below (w.alloc (.cells #[.int .i64 S, .slice ao n cap] 59)).heap.size (w.alloc (.cells #[.int .i64 S, .slice ao n cap] 59)) W → Below w.heap.size w W := fun W hb => below_on (below_alloc (Below.refl _ _) _) hb
  clear h
  go_enter Try.func7, Try.ntmps7
  go_wp2_with fail
  refine (szLayout_any _ _ _ _ _ hl).mono ?_
  rw [if_pos hn]
  rintro e w1 ⟨rfl, B1⟩
  obtain ⟨m1, a0, a1, s1⟩ := hA _ B1
  go_wp2_with fail
  refine (toLayout_any _ _ _ _ F T _ hn' m1).mono ?_
  rintro e w2 ⟨g2, rfl, hg2, r2, hb2⟩
  have B2 := below_on B1 hb2
  clear hb2 B1 m1 a0 a1 s1
  go_wp2_with fail
  refine (specLayoutOk_any _ _ _ F T _ r2).mono ?_
  rintro e w3 ⟨rfl, hb3⟩
  have B3 := below_on B2 hb3
  clear hb3 r2 B2
  obtain ⟨m3, a0, a1, s3⟩ := hA _ B3
  go_wp2_with fail
  refine (toLayout_any _ _ _ _ F T _ hn' m3).mono ?_
  rintro e w4 ⟨g4, rfl, hg4, r4, hb4⟩
  have B4 := below_on B3 hb4
  have l4 := r4.lt
  clear hb4 B3 m3 a0 a1 s3
  go_wp2_with fail
  refine (implLayoutOk_any _ _ _ F T _ (r4.alloc _)).mono ?_
  rintro e w5 ⟨rfl, hb5⟩
  have B5 := below_on (below_alloc B4 _) hb5
  have x0 : w5.cell? ⟨w4.heap.size, 0, none⟩ = some (.int .i64 S) := (hb5.cell (p := ⟨w4.heap.size, 0, none⟩) (by first | omega | (simp; done) | (simp; omega))).trans (by simp)
  have x1 : w5.cell? ⟨w4.heap.size, 1, none⟩ = some (.slice (some ⟨g4, 0, none⟩) n n) := (hb5.cell (p := ⟨w4.heap.size, 1, none⟩) (by first | omega | (simp; done) | (simp; omega))).trans (by simp)
  have r5 := (r4.alloc _).on hb5
  obtain ⟨m5, a0, a1, s5⟩ := hA _ B5
  clear hb5 B4 r4
  go_wp2_with fail
  have md : Came w5.drew ao n F T := m5
  have Bd : Below (w.alloc (.cells #[.int .i64 S, .slice ao n cap] 59)).heap.size (w.alloc (.cells #[.int .i64 S, .slice ao n cap] 59)) w5.drew := B5.drew
  have l5 := r5.lt
  have l45 : w4.heap.size < w5.heap.size := World.block_lt_of_cell? w5 ⟨w4.heap.size, 0, none⟩ x0
  go_region_with (first
    | (go_at_call 25; refine (toLayout_any _ _ _ _ F T _ hn' md).mono ?_; rintro e w6 ⟨g6, rfl, hg6, r6, hb6⟩; have y0 := (hb6.cell (p := ⟨w4.heap.size, 0, none⟩) l45).trans x0; have y1 := (hb6.cell (p := ⟨w4.heap.size, 1, none⟩) l45).trans x1; have r56 := r5.drew.below hb6 l5; have B6 := below_on Bd hb6)
    | (go_at_call 27; refine (eqLayout_same _ _ _ _ F T _ r56 r6 hn').mono ?_; rintro e w7 ⟨rfl, hb7⟩))
  all_goals
    go_wp2
    go_ret
    exact ⟨rfl, hE _ (below_on B6 hb7)⟩

end Go.Proofs.Ytlpopfhaephfaaa
