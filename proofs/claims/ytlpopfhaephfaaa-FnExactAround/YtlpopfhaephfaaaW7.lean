import Derived.Test.YtlpopfhaephfaaaW6
namespace Go.Proofs.Ytlpopfhaephfaaa
open Go.RowKit Go.Maps

theorem sectionOk_any (S s : Int) (v : Value) (w : World) (b : Bool) (hb : b = (decide (0 ≤ s) && decide (s < S))) :
    Calls Try.prog 76 #[.agg #[.int .i64 S, v], .int .i64 s] w fun e w' => e = .returned (.bool b) ∧ Below w.heap.size w w' := by
  rcases (show s < 0 ∨ (0 ≤ s ∧ S ≤ s) ∨ (0 ≤ s ∧ s < S) by omega) with h | ⟨h, h1⟩ | ⟨h, h1⟩
  · have e : b = false := by rw [hb]; simp; omega
    subst e; clear hb
    go_enter Try.func76, Try.ntmps76
    go_wp2
    go_ret
    exact ⟨rfl, (by repeat (first | exact Below.refl _ _ | assumption | refine below_alloc ?_ _ | refine Below.setCell ?_ (by first | omega | (simp; done) | (simp; omega)) _ | refine Below.alloc ?_ (by first | omega | (simp; done) | (simp; omega)) _ | refine Below.drew ?_))⟩
  · have e : b = false := by rw [hb]; simp; omega
    have h2 : decide (s < S) = false := by simp; omega
    subst e; clear hb
    go_enter Try.func76, Try.ntmps76
    go_wp2
    go_ret
    exact ⟨rfl, (by repeat (first | exact Below.refl _ _ | assumption | refine below_alloc ?_ _ | refine Below.setCell ?_ (by first | omega | (simp; done) | (simp; omega)) _ | refine Below.alloc ?_ (by first | omega | (simp; done) | (simp; omega)) _ | refine Below.drew ?_))⟩
  · have e : b = true := by rw [hb]; simp; omega
    have h2 : decide (s < S) = true := by simp; omega
    subst e; clear hb
    go_enter Try.func76, Try.ntmps76
    go_wp2
    go_ret
    exact ⟨rfl, (by repeat (first | exact Below.refl _ _ | assumption | refine below_alloc ?_ _ | refine Below.setCell ?_ (by first | omega | (simp; done) | (simp; omega)) _ | refine Below.alloc ?_ (by first | omega | (simp; done) | (simp; omega)) _ | refine Below.drew ?_))⟩

set_option maxHeartbeats 1000000 in
theorem implAround_any (S s : Int) (g n : Nat) (F T : Nat → Int) (w : World) (hrow : Row w g 51 2 n (two F T)) :
    Calls Try.prog 29 #[.agg #[.int .i64 S, .slice (some ⟨g, 0, none⟩) n n], .int .i64 s] w fun e w' => ∃ v, e = .returned v ∧ w'.ownsInts w.heap.size 3 .i64 v (arZ S n F T s) ∧ Below w.heap.size w w' := by
  have hg := hrow.lt
  have hc := fun o => implLayoutOk_any S g n F T _ (hrow.alloc o)
  by_cases h0 : lokZ S n F T = 0
  · obtain ⟨f1, f2, f3, f4⟩ := lok_facts h0
    rw [h0] at hc
    by_cases hs : 0 ≤ s ∧ s < S
    · have HE : Hid (arZ S n F T s = zsAt F T n s) := by show arZ S n F T s = _; unfold arZ; rw [if_pos ⟨h0, hs⟩]
      have wS : (Lit.int .i64 s).wf = true := WalkArith.wf_i64 (by omega)
      have hby : ∀ W, Below w.heap.size w W → Calls Try.prog 53 #[.agg #[.int .i64 S, .slice (some ⟨g, 0, none⟩) n n]] W fun e w' => ∃ B, e = .returned (.map (some B)) ∧ W.heap.size ≤ B ∧ Grp w' B (2 * n) (zsAt F T n) ∧ Below W.heap.size W w' := fun W hW =>
        bySide_any S g n F T W (hrow.below hW hg) f3 (fun i hi => WalkArith.wf_i64 (by have := f4 i hi; omega)) (fun i hi => WalkArith.wf_i64 (by have := f4 i hi; omega)) (fun i hi => (f4 i hi).2.2.2.2)
      have hsc := fun w => sectionOk_any S s (.slice (some ⟨g, 0, none⟩) n n) w true (by simp; omega)
      clear f4 h0 hrow
      go_enter Try.func29, Try.ntmps29
      go_wp2_with fail
      refine (hc _).mono ?_
      rintro e w1 ⟨rfl, hb1⟩
      have d0 : w1.cell? ⟨w.heap.size, 0, none⟩ = some (.int .i64 S) := (hb1.cell (p := ⟨w.heap.size, 0, none⟩) (by first | omega | (simp; done) | (simp; omega))).trans (by simp)
      have d1 : w1.cell? ⟨w.heap.size, 1, none⟩ = some (.slice (some ⟨g, 0, none⟩) n n) := (hb1.cell (p := ⟨w.heap.size, 1, none⟩) (by first | omega | (simp; done) | (simp; omega))).trans (by simp)
      have B1 : Below w.heap.size w w1 := below_on (by repeat (first | exact Below.refl _ _ | assumption | refine below_alloc ?_ _ | refine Below.setCell ?_ (by first | omega | (simp; done) | (simp; omega)) _ | refine Below.alloc ?_ (by first | omega | (simp; done) | (simp; omega)) _ | refine Below.drew ?_)) hb1
      have hs1 : w.heap.size < w1.heap.size := by have := hb1.size; simp at this; omega
      clear hc hb1
      go_wp2_with fail
      refine (hsc _).mono ?_
      rintro e w2 ⟨rfl, hb2⟩
      have d0 : w2.cell? ⟨w.heap.size, 0, none⟩ = some (.int .i64 S) := (hb2.cell (p := ⟨w.heap.size, 0, none⟩) hs1).trans d0
      have d1 : w2.cell? ⟨w.heap.size, 1, none⟩ = some (.slice (some ⟨g, 0, none⟩) n n) := (hb2.cell (p := ⟨w.heap.size, 1, none⟩) hs1).trans d1
      have B2 : Below w.heap.size w w2 := below_on B1 hb2
      clear hb2 B1
      go_wp2_with fail
      refine (hby _ B2).mono ?_
      rintro e w3 ⟨B, rfl, hB, hG, hb3⟩
      have B3 := below_on B2 hb3
      obtain ⟨v, hrun, hoi, _, _⟩ := hG.look (by unfold maxLen; omega) s wS
      have hsz := B2.size
      clear hG hb3 B2
      go_wp2
      go_ret
      exact ⟨_, rfl, by rw [HE.out]; exact ownsInts_base hoi (by omega), B3⟩
    · have e1 : arZ S n F T s = [] := by unfold arZ; rw [if_neg]; intro h; exact hs h.2
      rw [e1]
      have hsc := fun w => sectionOk_any S s (.slice (some ⟨g, 0, none⟩) n n) w false (by simp; omega)
      clear f4 h0 hrow hs
      go_enter Try.func29, Try.ntmps29
      go_wp2_with fail
      refine (hc _).mono ?_
      rintro e w1 ⟨rfl, hb1⟩
      have d0 : w1.cell? ⟨w.heap.size, 0, none⟩ = some (.int .i64 S) := (hb1.cell (p := ⟨w.heap.size, 0, none⟩) (by first | omega | (simp; done) | (simp; omega))).trans (by simp)
      have d1 : w1.cell? ⟨w.heap.size, 1, none⟩ = some (.slice (some ⟨g, 0, none⟩) n n) := (hb1.cell (p := ⟨w.heap.size, 1, none⟩) (by first | omega | (simp; done) | (simp; omega))).trans (by simp)
      have B1 : Below w.heap.size w w1 := below_on (by repeat (first | exact Below.refl _ _ | assumption | refine below_alloc ?_ _ | refine Below.setCell ?_ (by first | omega | (simp; done) | (simp; omega)) _ | refine Below.alloc ?_ (by first | omega | (simp; done) | (simp; omega)) _ | refine Below.drew ?_)) hb1
      clear hc hb1
      go_wp2_with fail
      refine (hsc _).mono ?_
      rintro e w2 ⟨rfl, hb2⟩
      go_wp2
      go_ret
      exact ⟨_, rfl, World.ownsInts_nil _ _ _ _, below_on B1 hb2⟩
  · have e1 : arZ S n F T s = [] := by unfold arZ; rw [if_neg]; intro h; exact h0 h.1
    rw [e1]
    have h1 : (lokZ S n F T != 0) = true := by simpa using h0
    clear h0 e1
    go_enter Try.func29, Try.ntmps29
    go_wp2_with fail
    refine (hc _).mono ?_
    rintro e w1 ⟨rfl, hb1⟩
    go_wp2
    go_ret
    exact ⟨_, rfl, World.ownsInts_nil _ _ _ _, below_on (by repeat (first | exact Below.refl _ _ | assumption | refine below_alloc ?_ _ | refine Below.setCell ?_ (by first | omega | (simp; done) | (simp; omega)) _ | refine Below.alloc ?_ (by first | omega | (simp; done) | (simp; omega)) _ | refine Below.drew ?_)) hb1⟩

end Go.Proofs.Ytlpopfhaephfaaa
