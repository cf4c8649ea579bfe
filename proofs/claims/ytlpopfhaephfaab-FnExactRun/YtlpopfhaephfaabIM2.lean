import Derived.Test.YtlpopfhaephfaabIM1
import Derived.Test.YtlpopfhaephfaabSO2
namespace Go.Proofs.Ytlpopfhaephfaab
open Go.RowKit Go.Maps Go.Sort

set_option maxHeartbeats 1000000 in
theorem told_any (S : Int) (g n B lo hi lo' hi' : Nat) (F T : Nat → Int) (ok : Bool) (a1 a2 : Option Addr) (ns c1 c2 k : Nat) (X : Nat → Sec) (D : Nat → Bool) (w : World) (hn : n ≤ 120) (hk : k < ns) (h1 : ns ≤ 60) (hg : Grp w B (2 * n) (zsAt F T n)) (hx : SlF w 93 5 lo' hi' (.slice a1 ns c1) ns (secs X)) (hd : SlF w 4 1 lo hi (.slice a2 n c2) n (bools D)) :
    Calls Try.prog 73 #[.agg #[.int .i64 S, .slice (some ⟨g, 0, none⟩) n n, .map (some B), .bool ok, .slice a1 ns c1, .slice a2 n c2], .int .i64 k] w fun e w' => e = .returned (.int .i64 (toldZ (deadB n F T D (k : Int)) (X k))) ∧ Below w.heap.size w w' := by
  obtain ⟨ao, cap, he, hx0⟩ := hx
  cases he
  rcases hx0 with hx0 | ⟨gx, mx, fx, rfl, _, _, x2, x3, x4⟩
  · omega
  obtain ⟨e0, e1, e2, e3, e4⟩ := five x3 x2 hk x4
  have hk' : (k : Int) < (ns : Int) := by omega
  have lx := x3.lt
  have hc := fun o o' => deadAround_any S (k : Int) g n B lo hi F T ok (some ⟨gx, 0, none⟩) a2 ns c1 c2 D _ hn (by omega) (by omega) ((hg.alloc o).alloc o') ((hd.alloc o).alloc o')
  obtain ⟨x, ex⟩ : ∃ x, X k = x := ⟨_, rfl⟩
  rw [ex] at e0 e1 e2 e3 e4 ⊢
  clear hg hd x3 x4 ex
  obtain ⟨told, count, lost, sweep, last⟩ := x
  simp only at e0 e1 e2 e3 e4
  cases hdd : deadB n F T D (k : Int)
  · rw [hdd] at hc
    cases lost
    · cases sweep
      · by_cases h : count = 0
        · subst h
          rw [told_free rfl rfl rfl]
          go_enter Try.func73, Try.ntmps73
          go_wp2_with fail
          refine (hc _ _).mono ?_
          rintro e w1 ⟨rfl, hb1⟩
          obtain ⟨q1, q2⟩ := bcell hb1
          have B1 := below_on (show Below w.heap.size w _ from (by repeat (first | exact Below.refl _ _ | assumption | refine below_alloc ?_ _ | refine Below.setCell ?_ (by first | omega | (simp; done) | (simp; omega)) _ | refine Below.alloc ?_ (by first | omega | (simp; done) | (simp; omega)) _ | refine Below.drew ?_))) hb1
          clear hb1
          go_wp2
          go_ret
          exact ⟨rfl, B1⟩
        · rw [told_occ rfl h rfl]
          go_enter Try.func73, Try.ntmps73
          go_wp2_with fail
          refine (hc _ _).mono ?_
          rintro e w1 ⟨rfl, hb1⟩
          obtain ⟨q1, q2⟩ := bcell hb1
          have B1 := below_on (show Below w.heap.size w _ from (by repeat (first | exact Below.refl _ _ | assumption | refine below_alloc ?_ _ | refine Below.setCell ?_ (by first | omega | (simp; done) | (simp; omega)) _ | refine Below.alloc ?_ (by first | omega | (simp; done) | (simp; omega)) _ | refine Below.drew ?_))) hb1
          clear hb1
          go_wp2
          go_ret
          exact ⟨rfl, B1⟩
      · rw [told_sw rfl rfl]
        have hcount : (count != 0) = true ∨ (count != 0) = false := by cases (count != 0) <;> simp
        rcases hcount with h | h
        all_goals
          go_enter Try.func73, Try.ntmps73
          go_wp2_with fail
          refine (hc _ _).mono ?_
          rintro e w1 ⟨rfl, hb1⟩
          obtain ⟨q1, q2⟩ := bcell hb1
          have B1 := below_on (show Below w.heap.size w _ from (by repeat (first | exact Below.refl _ _ | assumption | refine below_alloc ?_ _ | refine Below.setCell ?_ (by first | omega | (simp; done) | (simp; omega)) _ | refine Below.alloc ?_ (by first | omega | (simp; done) | (simp; omega)) _ | refine Below.drew ?_))) hb1
          clear hb1
          go_wp2
          go_ret
          exact ⟨rfl, B1⟩
    · rw [told_lost rfl]
      go_enter Try.func73, Try.ntmps73
      go_wp2_with fail
      refine (hc _ _).mono ?_
      rintro e w1 ⟨rfl, hb1⟩
      obtain ⟨q1, q2⟩ := bcell hb1
      have B1 := below_on (show Below w.heap.size w _ from (by repeat (first | exact Below.refl _ _ | assumption | refine below_alloc ?_ _ | refine Below.setCell ?_ (by first | omega | (simp; done) | (simp; omega)) _ | refine Below.alloc ?_ (by first | omega | (simp; done) | (simp; omega)) _ | refine Below.drew ?_))) hb1
      clear hb1
      go_wp2
      go_ret
      exact ⟨rfl, B1⟩
  · rw [hdd] at hc
    rw [told_dead]
    go_enter Try.func73, Try.ntmps73
    go_wp2_with fail
    refine (hc _ _).mono ?_
    rintro e w1 ⟨rfl, hb1⟩
    have B1 := below_on (show Below w.heap.size w _ from (by repeat (first | exact Below.refl _ _ | assumption | refine below_alloc ?_ _ | refine Below.setCell ?_ (by first | omega | (simp; done) | (simp; omega)) _ | refine Below.alloc ?_ (by first | omega | (simp; done) | (simp; omega)) _ | refine Below.drew ?_))) hb1
    clear hb1
    go_wp2
    go_ret
    exact ⟨rfl, B1⟩

set_option maxHeartbeats 1000000 in
theorem numbersOk_any (x : Sec) (w : World) :
    Calls Try.prog 69 #[.agg #[.int .i64 x.told, .int .i64 x.count, .bool x.lost, .bool x.sweep, .int .i64 x.last]] w fun e w' => e = .returned (.bool (numOk x)) ∧ Below w.heap.size w w' := by
  obtain ⟨told, count, lost, sweep, last⟩ := x
  rcases (show (decide (-1000000 ≤ count) = false) ∨ (-1000000 ≤ count ∧ decide (count ≤ 1000000) = false) ∨ (-1000000 ≤ count ∧ count ≤ 1000000 ∧ decide (-1 ≤ last) = false) ∨ (-1000000 ≤ count ∧ count ≤ 1000000 ∧ -1 ≤ last ∧ decide (last ≤ 1) = false) ∨ (-1000000 ≤ count ∧ count ≤ 1000000 ∧ -1 ≤ last ∧ last ≤ 1) by simp; omega) with h1 | ⟨h1, h2⟩ | ⟨h1, h2, h3⟩ | ⟨h1, h2, h3, h4⟩ | ⟨h1, h2, h3, h4⟩
  · have e : numOk ⟨told, count, lost, sweep, last⟩ = false := by simp [numOk, h1]
    rw [e]
    go_enter Try.func69, Try.ntmps69
    go_wp2
    go_ret
    exact ⟨by first | rfl | (simp [*]; done), (by repeat (first | exact Below.refl _ _ | assumption | refine below_alloc ?_ _ | refine Below.setCell ?_ (by first | omega | (simp; done) | (simp; omega)) _ | refine Below.alloc ?_ (by first | omega | (simp; done) | (simp; omega)) _ | refine Below.drew ?_))⟩
  · have e : numOk ⟨told, count, lost, sweep, last⟩ = false := by simp [numOk, h2]
    rw [e]
    go_enter Try.func69, Try.ntmps69
    go_wp2
    go_ret
    exact ⟨by first | rfl | (simp [*]; done), (by repeat (first | exact Below.refl _ _ | assumption | refine below_alloc ?_ _ | refine Below.setCell ?_ (by first | omega | (simp; done) | (simp; omega)) _ | refine Below.alloc ?_ (by first | omega | (simp; done) | (simp; omega)) _ | refine Below.drew ?_))⟩
  · have e : numOk ⟨told, count, lost, sweep, last⟩ = false := by simp [numOk, h3]
    rw [e]
    go_enter Try.func69, Try.ntmps69
    go_wp2
    go_ret
    exact ⟨by first | rfl | (simp [*]; done), (by repeat (first | exact Below.refl _ _ | assumption | refine below_alloc ?_ _ | refine Below.setCell ?_ (by first | omega | (simp; done) | (simp; omega)) _ | refine Below.alloc ?_ (by first | omega | (simp; done) | (simp; omega)) _ | refine Below.drew ?_))⟩
  · have e : numOk ⟨told, count, lost, sweep, last⟩ = false := by simp [numOk, h4]
    rw [e]
    go_enter Try.func69, Try.ntmps69
    go_wp2
    go_ret
    exact ⟨by first | rfl | (simp [*]; done), (by repeat (first | exact Below.refl _ _ | assumption | refine below_alloc ?_ _ | refine Below.setCell ?_ (by first | omega | (simp; done) | (simp; omega)) _ | refine Below.alloc ?_ (by first | omega | (simp; done) | (simp; omega)) _ | refine Below.drew ?_))⟩
  · have e : numOk ⟨told, count, lost, sweep, last⟩ = true := by simp [numOk]; omega
    rw [e]
    go_enter Try.func69, Try.ntmps69
    go_wp2
    go_ret
    exact ⟨by first | rfl | (simp [*]; done), (by repeat (first | exact Below.refl _ _ | assumption | refine below_alloc ?_ _ | refine Below.setCell ?_ (by first | omega | (simp; done) | (simp; omega)) _ | refine Below.alloc ?_ (by first | omega | (simp; done) | (simp; omega)) _ | refine Below.drew ?_))⟩

set_option maxHeartbeats 1000000 in
theorem mustBeLost_any (x : Sec) (w : World) :
    Calls Try.prog 71 #[.agg #[.int .i64 x.told, .int .i64 x.count, .bool x.lost, .bool x.sweep, .int .i64 x.last]] w fun e w' => e = .returned (.bool (mustL x)) ∧ Below w.heap.size w w' := by
  obtain ⟨told, count, lost, sweep, last⟩ := x
  rcases (show count < 0 ∨ (decide (count < 0) = false ∧ sweep = false) ∨ (decide (count < 0) = false ∧ sweep = true ∧ (count == 0) = false) ∨ (sweep = true ∧ count = 0 ∧ (last == -1) = false) ∨ (sweep = true ∧ count = 0 ∧ last = -1) by cases sweep <;> simp <;> omega) with h1 | ⟨h1, rfl⟩ | ⟨h1, rfl, h2⟩ | ⟨rfl, rfl, h2⟩ | ⟨rfl, rfl, rfl⟩
  · have e : mustL ⟨told, count, lost, sweep, last⟩ = true := by simp [mustL, h1]
    rw [e]
    go_enter Try.func71, Try.ntmps71
    go_wp2
    go_ret
    exact ⟨by first | rfl | (simp [*]; done), (by repeat (first | exact Below.refl _ _ | assumption | refine below_alloc ?_ _ | refine Below.setCell ?_ (by first | omega | (simp; done) | (simp; omega)) _ | refine Below.alloc ?_ (by first | omega | (simp; done) | (simp; omega)) _ | refine Below.drew ?_))⟩
  · have e : mustL ⟨told, count, lost, false, last⟩ = false := by simp [mustL, h1]
    rw [e]
    go_enter Try.func71, Try.ntmps71
    go_wp2
    go_ret
    exact ⟨by first | rfl | (simp [*]; done), (by repeat (first | exact Below.refl _ _ | assumption | refine below_alloc ?_ _ | refine Below.setCell ?_ (by first | omega | (simp; done) | (simp; omega)) _ | refine Below.alloc ?_ (by first | omega | (simp; done) | (simp; omega)) _ | refine Below.drew ?_))⟩
  · have e : mustL ⟨told, count, lost, true, last⟩ = false := by simp [mustL, h1, h2]
    rw [e]
    go_enter Try.func71, Try.ntmps71
    go_wp2
    go_ret
    exact ⟨by first | rfl | (simp [*]; done), (by repeat (first | exact Below.refl _ _ | assumption | refine below_alloc ?_ _ | refine Below.setCell ?_ (by first | omega | (simp; done) | (simp; omega)) _ | refine Below.alloc ?_ (by first | omega | (simp; done) | (simp; omega)) _ | refine Below.drew ?_))⟩
  · have e : mustL ⟨told, 0, lost, true, last⟩ = false := by simp [mustL, h2]
    rw [e]
    go_enter Try.func71, Try.ntmps71
    go_wp2
    go_ret
    exact ⟨by first | rfl | (simp [*]; done), (by repeat (first | exact Below.refl _ _ | assumption | refine below_alloc ?_ _ | refine Below.setCell ?_ (by first | omega | (simp; done) | (simp; omega)) _ | refine Below.alloc ?_ (by first | omega | (simp; done) | (simp; omega)) _ | refine Below.drew ?_))⟩
  · have e : mustL ⟨told, 0, lost, true, -1⟩ = true := by simp [mustL]
    rw [e]
    go_enter Try.func71, Try.ntmps71
    go_wp2
    go_ret
    exact ⟨by first | rfl | (simp [*]; done), (by repeat (first | exact Below.refl _ _ | assumption | refine below_alloc ?_ _ | refine Below.setCell ?_ (by first | omega | (simp; done) | (simp; omega)) _ | refine Below.alloc ?_ (by first | omega | (simp; done) | (simp; omega)) _ | refine Below.drew ?_))⟩

def toldsOk (n : Nat) (F T : Nat → Int) (D : Nat → Bool) (ns : Nat) (X : Nat → Sec) : Bool := (List.range ns).all (fun i => (X i).told == toldZ (deadB n F T D (i : Int)) (X i))

set_option maxRecDepth 100000 in
set_option maxHeartbeats 1000000 in
theorem toldIs_any (S : Int) (g n B lo hi lo' hi' : Nat) (F T : Nat → Int) (ok : Bool) (a1 a2 : Option Addr) (ns c1 c2 : Nat) (X : Nat → Sec) (D : Nat → Bool) (w : World) (hn : n ≤ 120) (h1 : ns ≤ 60) (hg : Grp w B (2 * n) (zsAt F T n)) (hx : SlF w 93 5 lo' hi' (.slice a1 ns c1) ns (secs X)) (hd : SlF w 4 1 lo hi (.slice a2 n c2) n (bools D)) :
    Calls Try.prog 72 #[.slice a1 ns c1, .func (.func 73) #[.agg #[.int .i64 S, .slice (some ⟨g, 0, none⟩) n n, .map (some B), .bool ok, .slice a1 ns c1, .slice a2 n c2]] #[]] w fun e w' => e = .returned (.bool (toldsOk n F T D ns X)) ∧ Below w.heap.size w w' := by
  obtain ⟨ao, cap, he, hx0⟩ := id hx
  cases he
  go_enter Try.func72, Try.ntmps72
  go_wp2
  go_loopw [9] (fun i wr => ∃ k : Nat, k ≤ ns ∧ i = .int .i64 k ∧ Below w.heap.size w wr ∧ ∀ j, j < k → ((X j).told == toldZ (deadB n F T D (j : Int)) (X j)) = true) (fun i _ => ns - (intOf i).toNat)
  case atStart => exact ⟨0, Nat.zero_le _, rfl, Below.refl _ _, fun j hj => by omega⟩
  case round =>
    obtain ⟨k, hk, rfl, hbel, hgood⟩ := hrel
    by_cases hlt : k < ns
    · rcases hx0 with hx0 | ⟨gx, mx, fx, rfl, _, _, x2, x3, x4⟩
      · omega
      obtain ⟨e0, e1, e2, e3, e4⟩ := five (x3.on hbel) x2 hlt x4
      have hk1 : (k : Int) < (ns : Int) := by omega
      have BW : Below w.heap.size w (wr.alloc (.cells #[.int .i64 (X k).told, .int .i64 (X k).count, .bool (X k).lost, .bool (X k).sweep, .int .i64 (X k).last] 93)) := below_alloc hbel _
      obtain ⟨b0, b1, b2, b3, b4⟩ := box5 wr (X k) 93
      have HG : Hid (∀ j, j < k → ((X j).told == toldZ (deadB n F T D (j : Int)) (X j)) = true) := hgood
      clear hgood x3 x4
      go_upto_region 4 with fail
      have EW : ∃ W, wr.alloc (.cells #[.int .i64 (X k).told, .int .i64 (X k).count, .bool (X k).lost, .bool (X k).sweep, .int .i64 (X k).last] 93) = W := ⟨_, rfl⟩
      obtain ⟨W, hW⟩ := EW
      rw [hW] at b0 b1 b2 b3 b4 BW ⊢
      clear hW e0 e1 e2 e3 e4 b1 b2 b3 b4
      have ct : ∀ d os, _ := fun d os => Calls.regrown_of (told_any S g n B lo hi lo' hi' F T ok (some ⟨gx, 0, none⟩) a2 ns c1 c2 k X D (grow (redrawn W d) os) hn hlt h1 ((hg.on BW).on (below_regrown W d os)) ((hx.on BW).on (below_regrown W d os)) ((hd.on BW).on (below_regrown W d os)))
      have kb0 := cell_regrown b0
      obtain ⟨tz, etz⟩ : ∃ tz, toldZ (deadB n F T D (k : Int)) (X k) = tz := ⟨_, rfl⟩
      have HT : Hid (toldZ (deadB n F T D (k : Int)) (X k) = tz) := etz
      rw [etz] at ct
      obtain ⟨t0, et0⟩ : ∃ t0, (X k).told = t0 := ⟨_, rfl⟩
      have H0 : Hid ((X k).told = t0) := et0
      rw [et0] at kb0
      have HB : Hid (Below w.heap.size w W) := BW
      clear etz et0 b0 BW hg hd hx hbel
      cases hq : (t0 != tz)
      · refine wp_region_quiet_below (by kernel_rfl) (by kernel_rfl) ?_
        repeat (go_big_quiet_step (first | with_reducible exact ct _ _))
        refine wpQuiet_nil ?_
        intro _ hw'
        obtain ⟨⟨dq, osq⟩, hw''⟩ := hw'
        have hBq := below_regrown W dq osq
        subst hw''
        clear kb0 ct
        generalize grow (redrawn W dq) osq = wq at *
        go_wp2
        go_roundw
        case rel =>
          refine ⟨k + 1, by omega, by go_num, below_on HB.out hBq, fun j hj => ?_⟩
          rcases (show j < k ∨ j = k by omega) with h | rfl
          · exact HG.out j h
          · rw [HT.out, H0.out]; simpa [bne] using hq
        case measure => simp [intOf]; omega
      · refine wp_region_quiet_below (by kernel_rfl) (by kernel_rfl) ?_
        repeat (go_big_quiet_step (first | with_reducible exact ct _ _))
        refine wpQuiet_nil ?_
        intro _ hw'
        obtain ⟨⟨dq, osq⟩, hw''⟩ := hw'
        have hBq := below_regrown W dq osq
        subst hw''
        clear kb0 ct
        generalize grow (redrawn W dq) osq = wq at *
        have hno : Hid (toldsOk n F T D ns X = false) := List.all_eq_false.2 ⟨k, List.mem_range.2 hlt, by rw [HT.out, H0.out]; simpa [bne] using hq⟩
        go_wp2
        go_ret
        exact ⟨by rw [hno.out]; rfl, below_on HB.out hBq⟩
    · have hyes : Hid (toldsOk n F T D ns X = true) := List.all_eq_true.2 fun i hi => hgood i (by have := List.mem_range.1 hi; omega)
      go_wp2
      go_ret
      exact ⟨by rw [hyes.out]; rfl, hbel⟩

end Go.Proofs.Ytlpopfhaephfaab
