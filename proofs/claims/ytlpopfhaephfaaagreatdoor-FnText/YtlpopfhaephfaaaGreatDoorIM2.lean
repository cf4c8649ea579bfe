import Derived.Test.YtlpopfhaephfaaaGreatDoorCR
import Derived.Test.YtlpopfhaephfaaaGreatDoorIM1
import Derived.Test.YtlpopfhaephfaaaGreatDoorSO2
namespace Go.Proofs.YtlpopfhaephfaaaGreatDoor
open Go.RowKit Go.Maps Go.Sort

set_option maxHeartbeats 1000000 in
theorem told_any (S : Int) (g n B lo hi lo' hi' : Nat) (F T : Nat → Int) (ok : Bool) (a1 a2 : Option Addr) (ns c1 c2 k : Nat) (X : Nat → Sec) (D : Nat → Bool) (w : World) (hn : n ≤ 120) (hk : k < ns) (h1 : ns ≤ 60) (hg : Grp w B (2 * n) (zsAt F T n)) (hx : SlF w 72 5 lo' hi' (.slice a1 ns c1) ns (secs X)) (hd : SlF w 4 1 lo hi (.slice a2 n c2) n (bools D)) :
    Calls Tryz.prog 61 #[.agg #[.int .i64 S, .slice (gA g) n (gC g), .map (some B), .bool ok, .slice a1 ns c1, .slice a2 n c2], .int .i64 k] w fun e w' => e = .returned (.int .i64 (toldZ (deadB n F T D (k : Int)) (X k))) ∧ Below w.heap.size w w' := by
  obtain ⟨ao, cap, he, hx0⟩ := hx
  cases he
  rcases hx0 with hx0 | ⟨gx, mx, fx, rfl, _, _, x2, x3, x4⟩
  · omega
  obtain ⟨e0, e1, e2, e3, e4⟩ := five x3 x2 hk x4
  have hk' : (k : Int) < (ns : Int) := by omega
  have lx := x3.lt
  have hc := fun o o' => deadAround_any S (k : Int) g n B lo hi F T ok (some ⟨gx, 0, none⟩) a2 ns c1 c2 D _ hn (by omega) (by omega) ((hg.alloc o).alloc o') ((hd.alloc o).alloc o')
  obtain ⟨x, ex⟩ : ∃ x, X k = x := ⟨_, rfl⟩
  rw [ex] at e0 e1 e2 e3 e4 ⊢
  clear hg hd x3 x4 ex
  obtain ⟨told, count, lost, sweep, last⟩ := x
  simp only at e0 e1 e2 e3 e4
  cases hdd : deadB n F T D (k : Int)
  · rw [hdd] at hc
    cases lost
    · cases sweep
      · by_cases h : count = 0
        · subst h
          rw [told_free rfl rfl rfl]
          go_enter Tryz.func61, Tryz.ntmps61
          go_wp2_with fail
          refine (hc _ _).mono ?_
          rintro e w1 ⟨rfl, hb1⟩
          obtain ⟨q1, q2⟩ := bcell hb1
          have B1 := below_on (show Below w.heap.size w _ from (by repeat (first | exact Below.refl _ _ | assumption | refine below_alloc ?_ _ | refine Below.setCell ?_ (by first | omega | (simp; done) | (simp; omega)) _ | refine Below.alloc ?_ (by first | omega | (simp; done) | (simp; omega)) _ | refine Below.drew ?_))) hb1
          clear hb1
          go_wp2
          go_ret
          exact ⟨rfl, B1⟩
        · rw [told_occ rfl h rfl]
          go_enter Tryz.func61, Tryz.ntmps61
          go_wp2_with fail
          refine (hc _ _).mono ?_
          rintro e w1 ⟨rfl, hb1⟩
          obtain ⟨q1, q2⟩ := bcell hb1
          have B1 := below_on (show Below w.heap.size w _ from (by repeat (first | exact Below.refl _ _ | assumption | refine below_alloc ?_ _ | refine Below.setCell ?_ (by first | omega | (simp; done) | (simp; omega)) _ | refine Below.alloc ?_ (by first | omega | (simp; done) | (simp; omega)) _ | refine Below.drew ?_))) hb1
          clear hb1
          go_wp2
          go_ret
          exact ⟨rfl, B1⟩
      · rw [told_sw rfl rfl]
        have hcount : (count != 0) = true ∨ (count != 0) = false := by cases (count != 0) <;> simp
        rcases hcount with h | h
        all_goals
          go_enter Tryz.func61, Tryz.ntmps61
          go_wp2_with fail
          refine (hc _ _).mono ?_
          rintro e w1 ⟨rfl, hb1⟩
          obtain ⟨q1, q2⟩ := bcell hb1
          have B1 := below_on (show Below w.heap.size w _ from (by repeat (first | exact Below.refl _ _ | assumption | refine below_alloc ?_ _ | refine Below.setCell ?_ (by first | omega | (simp; done) | (simp; omega)) _ | refine Below.alloc ?_ (by first | omega | (simp; done) | (simp; omega)) _ | refine Below.drew ?_))) hb1
          clear hb1
          go_wp2
          go_ret
          exact ⟨rfl, B1⟩
    · rw [told_lost rfl]
      go_enter Tryz.func61, Tryz.ntmps61
      go_wp2_with fail
      refine (hc _ _).mono ?_
      rintro e w1 ⟨rfl, hb1⟩
      obtain ⟨q1, q2⟩ := bcell hb1
      have B1 := below_on (show Below w.heap.size w _ from (by repeat (first | exact Below.refl _ _ | assumption | refine below_alloc ?_ _ | refine Below.setCell ?_ (by first | omega | (simp; done) | (simp; omega)) _ | refine Below.alloc ?_ (by first | omega | (simp; done) | (simp; omega)) _ | refine Below.drew ?_))) hb1
      clear hb1
      go_wp2
      go_ret
      exact ⟨rfl, B1⟩
  · rw [hdd] at hc
    rw [told_dead]
    go_enter Tryz.func61, Tryz.ntmps61
    go_wp2_with fail
    refine (hc _ _).mono ?_
    rintro e w1 ⟨rfl, hb1⟩
    have B1 := below_on (show Below w.heap.size w _ from (by repeat (first | exact Below.refl _ _ | assumption | refine below_alloc ?_ _ | refine Below.setCell ?_ (by first | omega | (simp; done) | (simp; omega)) _ | refine Below.alloc ?_ (by first | omega | (simp; done) | (simp; omega)) _ | refine Below.drew ?_))) hb1
    clear hb1
    go_wp2
    go_ret
    exact ⟨rfl, B1⟩

def toldsOk (n : Nat) (F T : Nat → Int) (D : Nat → Bool) (ns : Nat) (X : Nat → Sec) : Bool := (List.range ns).all (fun i => (X i).told == toldZ (deadB n F T D (i : Int)) (X i))

end Go.Proofs.YtlpopfhaephfaaaGreatDoor
