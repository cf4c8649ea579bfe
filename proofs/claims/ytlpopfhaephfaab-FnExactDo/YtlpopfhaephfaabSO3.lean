import Derived.Test.YtlpopfhaephfaabSO2
namespace Go.Proofs.Ytlpopfhaephfaab
open Go.RowKit Go.Maps Go.Sort

def inB (x a b : Int) : Bool := decide (a ≤ x) && decide (x ≤ b)

theorem l1in_any (x a b : Int) (w : World) :
    Calls Try.prog 48 #[.int .i64 x, .int .i64 a, .int .i64 b] w fun e w' => e = .returned (.bool (inB x a b)) ∧ Below w.heap.size w w' := by
  rcases (show x < a ∨ (a ≤ x ∧ x ≤ b) ∨ (a ≤ x ∧ b < x) by omega) with h | ⟨h, h2⟩ | ⟨h, h2⟩
  · have e : inB x a b = false := by simp [inB]; omega
    rw [e]
    have h' : decide (a ≤ x) = false := by simp; omega
    go_enter Try.func48, Try.ntmps48
    go_wp2
    go_ret
    exact ⟨rfl, (by repeat (first | exact Below.refl _ _ | assumption | refine below_alloc ?_ _ | refine Below.setCell ?_ (by first | omega | (simp; done) | (simp; omega)) _ | refine Below.alloc ?_ (by first | omega | (simp; done) | (simp; omega)) _ | refine Below.drew ?_))⟩
  · have e : inB x a b = true := by simp [inB]; omega
    rw [e]
    go_enter Try.func48, Try.ntmps48
    go_wp2
    go_ret
    exact ⟨by first | rfl | (simp [*]; done), (by repeat (first | exact Below.refl _ _ | assumption | refine below_alloc ?_ _ | refine Below.setCell ?_ (by first | omega | (simp; done) | (simp; omega)) _ | refine Below.alloc ?_ (by first | omega | (simp; done) | (simp; omega)) _ | refine Below.drew ?_))⟩
  · have e : inB x a b = false := by simp [inB]; omega
    rw [e]
    have h' : decide (x ≤ b) = false := by simp; omega
    go_enter Try.func48, Try.ntmps48
    go_wp2
    go_ret
    exact ⟨by first | rfl | (simp [*]; done), (by repeat (first | exact Below.refl _ _ | assumption | refine below_alloc ?_ _ | refine Below.setCell ?_ (by first | omega | (simp; done) | (simp; omega)) _ | refine Below.alloc ?_ (by first | omega | (simp; done) | (simp; omega)) _ | refine Below.drew ?_))⟩

theorem all_step {P : Nat → Prop} {k : Nat} (h : ∀ i, i < k → P i) (hk : P k) : ∀ i, i < k + 1 → P i := by
  intro i hi
  rcases (show i < k ∨ i = k by omega) with h' | rfl
  · exact h i h'
  · exact hk

theorem secOk_of {dd : Bool} {x : Sec} {tz : Int} (h1 : inB x.count (-1000000) 1000000 = true) (h2 : inB x.last (-1) 1 = true) (ht : toldZ dd x = tz) (hq : (x.told != tz) = false) : secOk dd x = (x.lost || !(mustL x || dd)) := by
  have h3 : (x.told == toldZ dd x) = true := by rw [ht]; simpa [bne] using hq
  unfold inB at h1 h2
  simp only [Bool.and_eq_true] at h1 h2
  simp [secOk, numOk, h1.1, h1.2, h2.1, h2.2, h3]

set_option maxRecDepth 100000 in
set_option maxHeartbeats 1000000 in
theorem specStateOk_main (S : Int) (g n lo hi : Nat) (F T : Nat → Int) (v : Value) (ns : Nat) (X : Nat → Sec) (D : Nat → Bool) (w : World) (hrow : Row w g 88 2 n (two F T)) (hs : StF w lo hi v true ns n X D) (hl : lokZ S n F T = 0) (hS : (ns : Int) = S) :
    Calls Try.prog 25 #[.agg #[.int .i64 S, .slice (some ⟨g, 0, none⟩) n n], v] w fun e w' => e = .returned (.bool (stOk S n F T true ns n X D)) ∧ Below w.heap.size w w' := by
  obtain ⟨r1, r2, r3⟩ := (show 1 ≤ S ∧ S ≤ 60 ∧ n ≤ 120 by have := lok_facts hl; omega)
  obtain ⟨_, _, rfl, ⟨a1, c1, rfl, hX⟩, hD⟩ := hs
  obtain ⟨a2, c2, rfl, hD0⟩ := id hD
  have hc := fun o o' => specLayoutOk_any S g n F T _ ((hrow.alloc o).alloc o')
  rw [hl] at hc
  subst hS
  go_enter Try.func25, Try.ntmps25
  go_wp2_with fail
  refine (hc _ _).mono ?_
  rintro e w1 ⟨rfl, hb1⟩
  have B1 := below_on (show Below w.heap.size w _ from (by repeat (first | exact Below.refl _ _ | assumption | refine below_alloc ?_ _ | refine Below.setCell ?_ (by first | omega | (simp; done) | (simp; omega)) _ | refine Below.alloc ?_ (by first | omega | (simp; done) | (simp; omega)) _ | refine Below.drew ?_))) hb1
  have z1 : w.heap.size + 1 < w1.heap.size := by have := hb1.size; simp at this; omega
  have z0 : w.heap.size < w1.heap.size := by omega
  have L0 : w1.cell? ⟨w.heap.size, 0, none⟩ = some (.int .i64 (ns : Int)) := (hb1.cell (p := ⟨w.heap.size, 0, none⟩) (by first | omega | (simp; done) | (simp; omega))).trans (by simp)
  have L1 : w1.cell? ⟨w.heap.size, 1, none⟩ = some (.slice (some ⟨g, 0, none⟩) n n) := (hb1.cell (p := ⟨w.heap.size, 1, none⟩) (by first | omega | (simp; done) | (simp; omega))).trans (by simp)
  have s0 : w1.cell? ⟨w.heap.size + 1, 0, none⟩ = some (.bool true) := (hb1.cell (p := ⟨w.heap.size + 1, 0, none⟩) (by first | omega | (simp; done) | (simp; omega))).trans (by simp)
  have s1 : w1.cell? ⟨w.heap.size + 1, 1, none⟩ = some (.slice a1 ns c1) := (hb1.cell (p := ⟨w.heap.size + 1, 1, none⟩) (by first | omega | (simp; done) | (simp; omega))).trans (by simp)
  have s2 : w1.cell? ⟨w.heap.size + 1, 2, none⟩ = some (.slice a2 n c2) := (hb1.cell (p := ⟨w.heap.size + 1, 2, none⟩) (by first | omega | (simp; done) | (simp; omega))).trans (by simp)
  have R1 := hrow.on B1
  have D1 := hD.on B1
  clear hb1 hc hrow hD hD0
  go_wp2
  go_loopw [35] (fun i wr => ∃ k : Nat, k ≤ ns ∧ i = .int .i64 k ∧ Below w1.heap.size w1 wr ∧ ∀ j, j < k → secOk (deadB n F T D (j : Int)) (X j) = true) (fun i _ => ns - (intOf i).toNat)
  case atStart => exact ⟨0, Nat.zero_le _, rfl, Below.refl _ _, fun j hj => by omega⟩
  case round =>
    obtain ⟨k, hk, rfl, hbel, hgood⟩ := hrel
    by_cases hlt : k < ns
    · rcases hX with hX | ⟨gx, mx, fx, rfl, _, _, x2, x3, x4⟩
      · omega
      obtain ⟨e0, e1, e2, e3, e4⟩ := five (x3.on (below_on B1 hbel)) x2 hlt x4
      have hk1 : (k : Int) < (ns : Int) := by omega
      obtain ⟨x, ex⟩ : ∃ x, X k = x := ⟨_, rfl⟩
      obtain ⟨dd, ed⟩ : ∃ dd, deadB n F T D (k : Int) = dd := ⟨_, rfl⟩
      obtain ⟨tz, etz⟩ : ∃ tz, toldZ dd x = tz := ⟨_, rfl⟩
      rw [ex] at e0 e1 e2 e3 e4
      obtain ⟨b0, b1, b2, b3, b4⟩ := box5 wr x 93
      have BW : Below w1.heap.size w1 (wr.alloc (.cells #[.int .i64 x.told, .int .i64 x.count, .bool x.lost, .bool x.sweep, .int .i64 x.last] 93)) := below_alloc hbel _
      have HG : Hid (∀ j, j < k → secOk (deadB n F T D (j : Int)) (X j) = true) := hgood
      have HX : Hid (X k = x) := ex
      have HD : Hid (deadB n F T D (k : Int) = dd) := ed
      have HT : Hid (toldZ dd x = tz) := etz
      have HNO : Hid (secOk dd x = false → stOk (ns : Int) n F T true ns n X D = false) := fun h => stOk_no hlt (by rw [HD.out, HX.out]; exact h)
      have q0 : wr.heap.size < wr.heap.size + 1 := by omega
      clear hgood ex ed etz x3 x4
      go_upto_region 6 with fail
      have EW : ∃ W, wr.alloc (.cells #[.int .i64 x.told, .int .i64 x.count, .bool x.lost, .bool x.sweep, .int .i64 x.last] 93) = W := ⟨_, rfl⟩
      obtain ⟨W, hW⟩ := EW
      rw [hW] at b0 b1 b2 b3 b4 BW ⊢
      have zW : wr.heap.size < W.heap.size := by rw [← hW]; simp
      clear hW
      have M0 := (BW.cell (p := ⟨w.heap.size, 0, none⟩) z0).trans L0
      have M1 := (BW.cell (p := ⟨w.heap.size, 1, none⟩) z0).trans L1
      have t2 := (BW.cell (p := ⟨w.heap.size + 1, 2, none⟩) z1).trans s2
      have RW := R1.on BW
      have DW := D1.on BW
      have ci : ∀ (y a b : Int) d os, _ := fun y a b d os => Calls.regrown_of (l1in_any y a b (grow (redrawn W d) os))
      have ct : ∀ d os, _ := fun d os => Calls.regrown_of (l2told_any (ns : Int) (k : Int) g n lo hi F T _ D x (grow (redrawn W d) os) (RW.on (below_regrown W d os)) hl (by omega) hk1 (DW.on (below_regrown W d os)))
      rw [HD.out, HT.out] at ct
      have cd : ∀ V, Below W.heap.size W V → _ := fun V hV => l2dead_any (ns : Int) (k : Int) g n lo hi F T _ D V (RW.on hV) hl (by omega) hk1 (DW.on hV)
      rw [HD.out] at cd
      have CD : Hid _ := cd
      have kb0 := cell_regrown b0
      have kb1 := cell_regrown b1
      have kb2 := cell_regrown b2
      have kb3 := cell_regrown b3
      have kb4 := cell_regrown b4
      have kM0 := cell_regrown M0
      have kM1 := cell_regrown M1
      have kt2 := cell_regrown t2
      have HBW : Hid (Below w.heap.size w W) := below_on B1 BW
      have HBW1 : Hid (Below w1.heap.size w1 W) := BW
      clear cd BW RW DW R1 D1 B1 hbel hl
      cases hi1 : inB x.count (-1000000) 1000000
      · refine wp_region_quiet_below (by kernel_rfl) (by kernel_rfl) ?_
        repeat (go_big_quiet_step (first | with_reducible exact ci _ _ _ _ _ | with_reducible exact ct _ _))
        refine wpQuiet_nil ?_
        intro _ hw'
        obtain ⟨⟨dq, osq⟩, hw''⟩ := hw'
        have hBq := below_regrown W dq osq
        subst hw''
        clear kb0 kb1 kb2 kb3 kb4 kM0 kM1 kt2 ci ct
        generalize grow (redrawn W dq) osq = wq at *
        go_wp2
        go_ret
        exact ⟨by rw [HNO.out (by unfold inB at hi1; simp [secOk, numOk, hi1])]; rfl, below_on HBW.out hBq⟩
      · cases hi2 : inB x.last (-1) 1
        · refine wp_region_quiet_below (by kernel_rfl) (by kernel_rfl) ?_
          repeat (go_big_quiet_step (first | with_reducible exact ci _ _ _ _ _ | with_reducible exact ct _ _))
          refine wpQuiet_nil ?_
          intro _ hw'
          obtain ⟨⟨dq, osq⟩, hw''⟩ := hw'
          have hBq := below_regrown W dq osq
          subst hw''
          clear kb0 kb1 kb2 kb3 kb4 kM0 kM1 kt2 ci ct
          generalize grow (redrawn W dq) osq = wq at *
          go_wp2
          go_ret
          exact ⟨by rw [HNO.out (by unfold inB at hi2; simp only [secOk, numOk, Bool.and_assoc, hi2]; simp)]; rfl, below_on HBW.out hBq⟩
        · cases hq : (x.told != tz)
          · refine wp_region_quiet_below (by kernel_rfl) (by kernel_rfl) ?_
            repeat (go_big_quiet_step (first | with_reducible exact ci _ _ _ _ _ | with_reducible exact ct _ _))
            refine wpQuiet_nil ?_
            intro _ hw'
            obtain ⟨⟨dq, osq⟩, hw''⟩ := hw'
            have hBq := below_regrown W dq osq
            subst hw''
            have b1 := kb1 dq osq
            have b2 := kb2 dq osq
            have b3 := kb3 dq osq
            have b4 := kb4 dq osq
            have M0 := kM0 dq osq
            have M1 := kM1 dq osq
            have t2 := kt2 dq osq
            clear kb0 kb1 kb2 kb3 kb4 kM0 kM1 kt2 ci ct b0
            generalize grow (redrawn W dq) osq = wq at *
            have cd := CD.out wq hBq
            have zq : wr.heap.size < wq.heap.size := Nat.lt_of_lt_of_le zW hBq.size
            have HS : Hid (secOk dd x = (x.lost || !(mustL x || dd))) := secOk_of hi1 hi2 HT.out hq
            have HQ : Hid (Below w1.heap.size w1 wq) := HBW1.out.trans (hBq.mono HBW1.out.size)
            have HQ0 : Hid (Below w.heap.size w wq) := below_on HBW.out hBq
            have zw : w.heap.size < wq.heap.size := by have := HQ.out.size; omega
            have zw1 : w.heap.size + 1 < wq.heap.size := by have := HQ.out.size; omega
            clear CD HBW HBW1 hBq hq zW hi1 hi2
            obtain ⟨told, count, lost, sweep, last⟩ := x
            simp only at b1 b2 b3 b4
            cases lost
            · rcases (show count < 0 ∨ (0 ≤ count ∧ dd = true) ∨ (0 ≤ count ∧ dd = false ∧ sweep = true ∧ count = 0 ∧ last = -1) ∨ (0 ≤ count ∧ dd = false ∧ sweep = false) ∨ (0 < count ∧ dd = false ∧ sweep = true) ∨ (0 ≤ count ∧ dd = false ∧ sweep = true ∧ count = 0 ∧ ¬ last = -1) by
                cases dd <;> cases sweep <;> simp <;> omega) with h | ⟨h, rfl⟩ | ⟨_, rfl, rfl, rfl, rfl⟩ | ⟨h, rfl, rfl⟩ | ⟨h, rfl, rfl⟩ | ⟨_, rfl, rfl, rfl, h⟩
              · have hh : Hid (secOk dd ⟨told, count, false, sweep, last⟩ = false) := by show secOk _ _ = _; rw [HS.out]; simp [mustL, h]
                go_wp2
                go_ret
                exact ⟨by rw [HNO.out hh.out]; rfl, HQ0.out⟩
              · have hh : Hid (secOk true ⟨told, count, false, sweep, last⟩ = false) := by show secOk _ _ = _; rw [HS.out]; simp
                have g1 : decide (count < 0) = false := by simp; omega
                go_wp2_with fail
                refine cd.mono ?_
                rintro e w2 ⟨rfl, hb2⟩
                obtain ⟨q1, q2⟩ := bcell hb2
                have B2 := below_on HQ0.out hb2
                clear hb2
                go_wp2
                go_ret
                exact ⟨by rw [HNO.out hh.out]; rfl, B2⟩
              · have hh : Hid (secOk false ⟨told, 0, false, true, -1⟩ = false) := by show secOk _ _ = _; rw [HS.out]; simp [mustL]
                go_wp2_with fail
                refine cd.mono ?_
                rintro e w2 ⟨rfl, hb2⟩
                obtain ⟨q1, q2⟩ := bcell hb2
                have B2 := below_on HQ0.out hb2
                clear hb2
                go_wp2
                go_ret
                exact ⟨by rw [HNO.out hh.out]; rfl, B2⟩
              · have hh : Hid (secOk false ⟨told, count, false, false, last⟩ = true) := by show secOk _ _ = _; rw [HS.out]; simp [mustL]; omega
                have g1 : decide (count < 0) = false := by simp; omega
                go_wp2_with fail
                refine cd.mono ?_
                rintro e w2 ⟨rfl, hb2⟩
                obtain ⟨q1, q2⟩ := bcell hb2
                have B2 := HQ.out.trans (hb2.mono HQ.out.size)
                clear hb2
                go_wp2
                go_roundw
                case rel => exact ⟨k + 1, by omega, by go_num, B2, all_step HG.out (by rw [HD.out, HX.out]; exact hh.out)⟩
                case measure => simp [intOf]; omega
              · have hh : Hid (secOk false ⟨told, count, false, true, last⟩ = true) := by show secOk _ _ = _; rw [HS.out]; simp [mustL]; omega
                have g1 : decide (count < 0) = false := by simp; omega
                have g2 : (count == 0) = false := by simp; omega
                go_wp2_with fail
                refine cd.mono ?_
                rintro e w2 ⟨rfl, hb2⟩
                obtain ⟨q1, q2⟩ := bcell hb2
                have B2 := HQ.out.trans (hb2.mono HQ.out.size)
                clear hb2
                go_wp2
                go_roundw
                case rel => exact ⟨k + 1, by omega, by go_num, B2, all_step HG.out (by rw [HD.out, HX.out]; exact hh.out)⟩
                case measure => simp [intOf]; omega
              · have hh : Hid (secOk false ⟨told, 0, false, true, last⟩ = true) := by show secOk _ _ = _; rw [HS.out]; simp [mustL, h]
                have g2 : (last == -1) = false := by simp [h]
                go_wp2_with fail
                refine cd.mono ?_
                rintro e w2 ⟨rfl, hb2⟩
                obtain ⟨q1, q2⟩ := bcell hb2
                have B2 := HQ.out.trans (hb2.mono HQ.out.size)
                clear hb2
                go_wp2
                go_roundw
                case rel => exact ⟨k + 1, by omega, by go_num, B2, all_step HG.out (by rw [HD.out, HX.out]; exact hh.out)⟩
                case measure => simp [intOf]; omega
            · have hh : Hid (secOk dd ⟨told, count, true, sweep, last⟩ = true) := by show secOk _ _ = _; rw [HS.out]; simp
              rcases (show decide (count < 0) = true ∨ decide (count < 0) = false by cases decide (count < 0) <;> simp) with g1 | g1
              all_goals
                cases dd
                all_goals
                  rcases (show sweep = false ∨ (sweep = true ∧ (count == 0) = false) ∨ (sweep = true ∧ (count == 0) = true ∧ (last == -1) = false) ∨ (sweep = true ∧ (count == 0) = true ∧ (last == -1) = true) by
                    cases sweep <;> cases (count == 0) <;> cases (last == -1) <;> simp) with rfl | ⟨rfl, g2⟩ | ⟨rfl, g2, g3⟩ | ⟨rfl, g2, g3⟩
                  all_goals
                    go_wp2_with fail
                    refine cd.mono ?_
                    rintro e w2 ⟨rfl, hb2⟩
                    obtain ⟨q1, q2⟩ := bcell hb2
                    have B2 := HQ.out.trans (hb2.mono HQ.out.size)
                    clear hb2
                    go_wp2
                    go_roundw
                    case rel => exact ⟨k + 1, by omega, by go_num, B2, all_step HG.out (by rw [HD.out, HX.out]; exact hh.out)⟩
                    case measure => simp [intOf]; omega
          · refine wp_region_quiet_below (by kernel_rfl) (by kernel_rfl) ?_
            repeat (go_big_quiet_step (first | with_reducible exact ci _ _ _ _ _ | with_reducible exact ct _ _))
            refine wpQuiet_nil ?_
            intro _ hw'
            obtain ⟨⟨dq, osq⟩, hw''⟩ := hw'
            have hBq := below_regrown W dq osq
            subst hw''
            clear kb0 kb1 kb2 kb3 kb4 kM0 kM1 kt2 ci ct
            generalize grow (redrawn W dq) osq = wq at *
            go_wp2
            go_ret
            exact ⟨by rw [HNO.out (by have h1 : ¬ x.told = toldZ dd x := (by rw [HT.out]; simpa [bne] using hq)
                                      have h2 : (x.told == toldZ dd x) = false := by simpa using h1
                                      simp [secOk, h2])]; rfl, below_on HBW.out hBq⟩
    · have e1 : Hid (stOk (ns : Int) n F T true ns n X D = true) := stOk_yes hl rfl (fun j hj => hgood j (by omega))
      go_wp2
      go_ret
      exact ⟨by rw [e1.out]; rfl, below_on B1 hbel⟩

end Go.Proofs.Ytlpopfhaephfaab
