import Derived.Test.YtlpopfhaephfaaaH7
import Derived.Test.YtlpopfhaephfaaaSrt
import Derived.Test.YtlpopfhaephfaaaW2
namespace Go.Proofs.Ytlpopfhaephfaaa
open Go.RowKit Go.Sort

theorem Try.infoQ : (Try.prog.info? 123).map (fun i => (i.zero, i.size, i.bytes)) = some (some (.agg #[.int .i64 0, .int .i64 0, .int .i64 0]), 3, 24) := by kernel_rfl

theorem l1before_any (x y : M3) (w : World) (b : Bool) (hb : bef x y = b) :
    Calls Try.prog 80 #[.agg #[.int .i64 x.f, .int .i64 x.a, .int .i64 x.p], .agg #[.int .i64 y.f, .int .i64 y.a, .int .i64 y.p]] w fun e w' => e = .returned (.bool b) ∧ RowKit.Below w.heap.size w w' := by
  obtain ⟨f, a, p⟩ := x
  obtain ⟨f', a', p'⟩ := y
  by_cases h : f = f'
  · subst h
    have e : decide (a < a') = b := by rw [← hb]; simp [bef]
    clear hb
    go_enter Try.func80, Try.ntmps80
    go_wp2
    go_ret
    exact ⟨by rw [← e]; rfl, (by repeat (first | exact Below.refl _ _ | assumption | refine below_alloc ?_ _ | refine Below.setCell ?_ (by first | omega | (simp; done) | (simp; omega)) _ | refine Below.alloc ?_ (by first | omega | (simp; done) | (simp; omega)) _ | refine Below.drew ?_))⟩
  · have e : decide (f < f') = b := by rw [← hb]; simp [bef, h]
    have h' : (f != f') = true := by simp [h]
    clear hb h
    go_enter Try.func80, Try.ntmps80
    go_wp2
    go_ret
    exact ⟨by rw [← e]; rfl, (by repeat (first | exact Below.refl _ _ | assumption | refine below_alloc ?_ _ | refine Below.setCell ?_ (by first | omega | (simp; done) | (simp; omega)) _ | refine Below.alloc ?_ (by first | omega | (simp; done) | (simp; omega)) _ | refine Below.drew ?_))⟩

/-- the spec's list in its block -/
def RC (w : World) (g cap : Nat) (C : List M3) : Prop := ∃ f, Blk w g 123 (cap * 3) f ∧ ∀ c, c < C.length * 3 → f c = cellL C c

theorem RC.on {w w' : World} {g cap : Nat} {C : List M3} (h : RC w g cap C) (hB : RowKit.Below w.heap.size w w') : RC w' g cap C := by
  obtain ⟨f, h1, h2⟩ := h
  exact ⟨f, h1.below hB h1.lt, h2⟩
theorem RC.grown {w w' : World} {g cap base n : Nat} {C : List M3} {v : Value} {xs : List Value} (h : RC w g cap C) (ho : w.ownsRow base 45 3 v n xs) (hg : w.grownBy w' v.ownBlock) : RC w' g cap C := by
  obtain ⟨f, h1, h2⟩ := h
  exact ⟨f, h1.grown hg (row_ne ho h1 (by decide)), h2⟩
theorem RC.it {w : World} {g cap i : Nat} {C : List M3} (h : RC w g cap C) (hc : C.length ≤ cap) (hi : i < C.length) : w.cell? ⟨g, i * 3, none⟩ = some (.int .i64 (at3 C i).f) ∧ w.cell? ⟨g, i * 3 + 1, none⟩ = some (.int .i64 (at3 C i).a) ∧ w.cell? ⟨g, i * 3 + 2, none⟩ = some (.int .i64 (at3 C i).p) := by
  obtain ⟨f, h4, h5⟩ := h
  have hl : C.length * 3 ≤ cap * 3 := Nat.mul_le_mul_right 3 hc
  refine ⟨?_, ?_, ?_⟩
  · rw [h4.cell (by omega), h5 _ (by omega)]; unfold cellL; rw [show i * 3 / 3 = i by omega, show i * 3 % 3 = 0 by omega]; rfl
  · rw [h4.cell (by omega), h5 _ (by omega)]; unfold cellL; rw [show (i * 3 + 1) / 3 = i by omega, show (i * 3 + 1) % 3 = 1 by omega]; rfl
  · rw [h4.cell (by omega), h5 _ (by omega)]; unfold cellL; rw [show (i * 3 + 2) / 3 = i by omega, show (i * 3 + 2) % 3 = 2 by omega]; rfl
theorem RC.frozen {w : World} {g cap : Nat} {C : List M3} (h : RC w g cap C) (i : Nat) : w.frozen? ⟨g, i, none⟩ = false := by
  obtain ⟨f, h4, _⟩ := h; exact h4.frozen i
theorem RC.lt {w : World} {g cap : Nat} {C : List M3} (h : RC w g cap C) : g < w.heap.size := by
  obtain ⟨f, h4, _⟩ := h; exact h4.lt
theorem RC.swap {w : World} {g cap a b : Nat} {C : List M3} (h : RC w g cap C) (ha : a < C.length) (hb : b < C.length) :
    RC ((((((w.setCell ⟨g, a * 3, none⟩ (.int .i64 (at3 C b).f)).setCell ⟨g, a * 3 + 1, none⟩ (.int .i64 (at3 C b).a)).setCell ⟨g, a * 3 + 2, none⟩ (.int .i64 (at3 C b).p)).setCell ⟨g, b * 3, none⟩ (.int .i64 (at3 C a).f)).setCell ⟨g, b * 3 + 1, none⟩ (.int .i64 (at3 C a).a)).setCell ⟨g, b * 3 + 2, none⟩ (.int .i64 (at3 C a).p)) g cap (swapL C a b) := by
  obtain ⟨f, h4, h5⟩ := h
  exact ⟨_, (((((h4.set (a * 3) (.int .i64 (at3 C b).f)).set (a * 3 + 1) (.int .i64 (at3 C b).a)).set (a * 3 + 2) (.int .i64 (at3 C b).p)).set (b * 3) (.int .i64 (at3 C a).f)).set (b * 3 + 1) (.int .i64 (at3 C a).a)).set (b * 3 + 2) (.int .i64 (at3 C a).p), fun c hc => swap_cells ha hb h5 c (by rw [swapL_length] at hc; exact hc)⟩

open Classical in
theorem stests_any (S : Int) (g n gp nP ga nA : Nat) (F T : Nat → Int) (P : Nat → Nat → Int) (Z : Nat → Int) (w : World) (hL : Row w g 51 2 n (two F T)) (hP : Row w gp 103 3 nP (ints P)) (hA : Blk w ga 3 nA (fun i => .int .i64 (Z i))) (hp : nP ≤ 1048576) (ha : nA ≤ 1048576) :
    (∀ W, RowKit.Below w.heap.size w W → Calls Try.prog 24 #[.agg #[.int .i64 S, .slice (some ⟨g, 0, none⟩) n n]] W fun e w' => e = .returned (.int .i64 (lokZ S n F T)) ∧ RowKit.Below W.heap.size W w') ∧
    (lokZ S n F T = 0 → ∀ W, RowKit.Below w.heap.size w W → Calls Try.prog 78 #[.agg #[.int .i64 S, .slice (some ⟨g, 0, none⟩) n n], .slice (some ⟨gp, 0, none⟩) nP nP] W fun e w' => e = .returned (.bool (decide (PostsV n nP P))) ∧ RowKit.Below W.heap.size W w') ∧
    (∀ W, RowKit.Below w.heap.size w W → Calls Try.prog 79 #[.slice (some ⟨ga, 0, none⟩) nA nA] W fun e w' => e = .returned (.bool (decide (AxlesV nA Z))) ∧ RowKit.Below W.heap.size W w') :=
  ⟨fun W hW => specLayoutOk_any S g n F T W (hL.below hW hL.lt), fun h0 W hW => l1posts_any S g n gp nP P W (lok_facts h0).2.2.1 hp (hP.below hW hP.lt), fun W hW => l1axles_any ga nA Z W ha (hA.below hW hA.lt)⟩

open Classical in
set_option maxRecDepth 100000 in
set_option maxHeartbeats 2000000 in
theorem specPassing_bad (S : Int) (g n gp nP ga nA : Nat) (F T : Nat → Int) (P : Nat → Nat → Int) (Z : Nat → Int) (fr tt : Int) (w : World) (hL : Row w g 51 2 n (two F T)) (hP : Row w gp 103 3 nP (ints P)) (hA : Blk w ga 3 nA (fun i => .int .i64 (Z i))) (hp : nP ≤ 1048576) (ha : nA ≤ 1048576)
    (hV : ¬ PasV S n F T nP P nA Z fr tt) :
    Calls Try.prog 35 #[.agg #[.int .i64 S, .slice (some ⟨g, 0, none⟩) n n], .slice (some ⟨gp, 0, none⟩) nP nP, .slice (some ⟨ga, 0, none⟩) nA nA, .int .i64 fr, .int .i64 tt] w fun e w' => e = .returned (.slice none 0 0) ∧ RowKit.Below w.heap.size w w' := by
  obtain ⟨t1, t2, t3⟩ := stests_any S g n gp nP ga nA F T P Z w hL hP hA hp ha
  clear hL hP hA hp ha
  have hA : ∀ W, RowKit.Below (w.alloc (.cells #[.int .i64 S, .slice (some ⟨g, 0, none⟩) n n] 25)).heap.size (w.alloc (.cells #[.int .i64 S, .slice (some ⟨g, 0, none⟩) n n] 25)) W → RowKit.Below w.heap.size w W ∧ W.cell? ⟨w.heap.size, 0, none⟩ = some (.int .i64 S) ∧ W.cell? ⟨w.heap.size, 1, none⟩ = some (.slice (some ⟨g, 0, none⟩) n n) := fun W hb =>
    ⟨below_on (below_alloc (RowKit.Below.refl _ _) _) hb, (hb.cell (p := ⟨w.heap.size, 0, none⟩) (by first | omega | (simp; done) | (simp; omega))).trans (by simp), (hb.cell (p := ⟨w.heap.size, 1, none⟩) (by first | omega | (simp; done) | (simp; omega))).trans (by simp)⟩
  by_cases h1 : lokZ S n F T = 0
  · have t2 := t2 h1
    rw [h1] at t1
    by_cases h2 : PostsV n nP P
    · simp only [decide_eq_true h2] at t2
      by_cases h3 : AxlesV nA Z
      · simp only [decide_eq_true h3] at t3
        have h4 : ¬ (0 ≤ fr ∧ fr ≤ 1000000 ∧ fr ≤ tt ∧ tt ≤ 1000000) := fun h => hV ⟨h1, h2, h3, h⟩
        clear h1 h2 h3 hV
        rcases (show fr < 0 ∨ (0 ≤ fr ∧ 1000000 < fr) ∨ (0 ≤ fr ∧ fr ≤ 1000000 ∧ tt < fr) ∨ (0 ≤ fr ∧ fr ≤ 1000000 ∧ fr ≤ tt ∧ 1000000 < tt) by omega) with b1 | ⟨b1, b2⟩ | ⟨b1, b2, b3⟩ | ⟨b1, b2, b3, b4⟩
        all_goals
          have d1 : decide (fr ≤ 1000000) = !decide (1000000 < fr) := by by_cases h : 1000000 < fr <;> simp [h] <;> omega
          have d2 : decide (tt ≤ 1000000) = !decide (1000000 < tt) := by by_cases h : 1000000 < tt <;> simp [h] <;> omega
          clear h4
          go_enter Try.func35, Try.ntmps35
          go_wp2_with fail
          refine (t1 _ (below_alloc (RowKit.Below.refl _ _) _)).mono ?_
          rintro e w1 ⟨rfl, B1⟩
          obtain ⟨B1', a0, a1⟩ := hA _ B1
          go_wp2_with fail
          refine (t2 _ B1').mono ?_
          rintro e w2 ⟨rfl, hb2⟩
          have B2 := below_on B1' hb2
          go_wp2_with fail
          refine (t3 _ B2).mono ?_
          rintro e w3 ⟨rfl, hb3⟩
          have B3 := below_on B2 hb3
          go_wp2
          go_ret
          exact ⟨rfl, B3⟩
      · simp only [decide_eq_false h3] at t3
        clear h1 h2 h3 hV
        go_enter Try.func35, Try.ntmps35
        go_wp2_with fail
        refine (t1 _ (below_alloc (RowKit.Below.refl _ _) _)).mono ?_
        rintro e w1 ⟨rfl, B1⟩
        obtain ⟨B1', a0, a1⟩ := hA _ B1
        go_wp2_with fail
        refine (t2 _ B1').mono ?_
        rintro e w2 ⟨rfl, hb2⟩
        have B2 := below_on B1' hb2
        go_wp2_with fail
        refine (t3 _ B2).mono ?_
        rintro e w3 ⟨rfl, hb3⟩
        go_wp2
        go_ret
        exact ⟨rfl, below_on B2 hb3⟩
    · simp only [decide_eq_false h2] at t2
      clear h1 h2 hV t3
      go_enter Try.func35, Try.ntmps35
      go_wp2_with fail
      refine (t1 _ (below_alloc (RowKit.Below.refl _ _) _)).mono ?_
      rintro e w1 ⟨rfl, B1⟩
      obtain ⟨B1', a0, a1⟩ := hA _ B1
      go_wp2_with fail
      refine (t2 _ B1').mono ?_
      rintro e w2 ⟨rfl, hb2⟩
      go_wp2
      go_ret
      exact ⟨rfl, below_on B1' hb2⟩
  · have h1' : (lokZ S n F T != 0) = true := by simpa using h1
    clear h1 hV t2 t3
    go_enter Try.func35, Try.ntmps35
    go_wp2_with fail
    refine (t1 _ (below_alloc (RowKit.Below.refl _ _) _)).mono ?_
    rintro e w1 ⟨rfl, B1⟩
    go_wp2
    go_ret
    exact ⟨rfl, (hA _ B1).1⟩

end Go.Proofs.Ytlpopfhaephfaaa
