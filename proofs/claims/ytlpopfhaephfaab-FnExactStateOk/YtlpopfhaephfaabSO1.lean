import Derived.Test.YtlpopfhaephfaabW6
import Derived.Test.YtlpopfhaephfaabST2
namespace Go.Proofs.Ytlpopfhaephfaab
open Go.RowKit Go.Maps

/-- one of the counters around s is dead -/
def deadB (n : Nat) (F T : Nat → Int) (D : Nat → Bool) (s : Int) : Bool := (zsAt F T n s).any (fun z => D z.toNat)

/-- what is told of a section -/
def toldZ (dd : Bool) (x : Sec) : Int := if dd then 3 else if x.lost || (x.count != 0 && !x.sweep) then 1 else if x.sweep then 2 else 0

/-- a section's own numbers ask for Lost -/
def mustL (x : Sec) : Bool := decide (x.count < 0) || (x.sweep && x.count == 0 && x.last == -1)

def numOk (x : Sec) : Bool := decide (-1000000 ≤ x.count) && decide (x.count ≤ 1000000) && decide (-1 ≤ x.last) && decide (x.last ≤ 1)

def secOk (dd : Bool) (x : Sec) : Bool := numOk x && (x.told == toldZ dd x) && (x.lost || !(mustL x || dd))

def stOk (S : Int) (n : Nat) (F T : Nat → Int) (ok : Bool) (ns nd : Nat) (X : Nat → Sec) (D : Nat → Bool) : Bool :=
  (lokZ S n F T == 0) && ok && ((ns : Int) == S) && (nd == n) && (List.range ns).all (fun i => secOk (deadB n F T D (i : Int)) (X i))

def ints (zs : List Int) : Nat → Nat → Value := fun i _ => .int .i64 (zs.getD i 0)

theorem SlF.of_owns {w : World} {base : Nat} {v : Value} {zs : List Int} (h : w.ownsInts base 3 .i64 v zs) : SlF w 3 1 base w.heap.size v zs.length (ints zs) := by
  rcases h.1.2 with ⟨rfl, h0⟩ | ⟨g, cap, cur, rfl, hb, hh, hn, hm, hs, ht⟩
  · exact ⟨none, 0, by rw [h0], .inl h0⟩
  · have hlt : g < w.heap.size := (Array.getElem?_eq_some_iff.1 hh).1
    refine ⟨_, cap, rfl, .inr ⟨g, cap, fun i => cur.toList.getD i (.int .i64 0), rfl, hb, hlt, by omega, ⟨cur, hh, by simpa using hs, fun i hi => ?_⟩, fun i hi j hj => ?_⟩⟩
    · have : i < cur.size := by rw [hs]; omega
      simp [this]
    · have e : (cur.toList.take (zs.length * 1))[i]? = (zs.map (Value.int .i64))[i]? := by rw [ht]
      rw [List.getElem?_take_of_lt (by omega)] at e
      simp only [List.getElem?_map, List.getElem?_eq_getElem hi, Option.map_some] at e
      have hj0 : j = 0 := by omega
      subst hj0
      simp [ints, List.getD, e, List.getElem?_eq_getElem hi]

theorem zs_mem {F T : Nat → Int} {n : Nat} {s z : Int} (h : z ∈ zsAt F T n s) : ∃ m : Nat, m < n ∧ z = (m : Int) := by
  unfold zsAt at h
  simp only [List.mem_map, List.mem_filter, List.mem_range] at h
  obtain ⟨m, ⟨h1, _⟩, h2⟩ := h
  exact ⟨m, h1, h2.symm⟩

theorem zs_get {F T : Nat → Int} {n : Nat} {s : Int} {k : Nat} (h : k < (zsAt F T n s).length) : ∃ m : Nat, m < n ∧ (zsAt F T n s).getD k 0 = (m : Int) := by
  have : (zsAt F T n s).getD k 0 ∈ zsAt F T n s := by
    rw [List.getD_eq_getElem?_getD, List.getElem?_eq_getElem h]; exact List.getElem_mem h
  exact zs_mem this

theorem dead_yes {F T : Nat → Int} {n : Nat} {s : Int} {D : Nat → Bool} {k m : Nat} (h : k < (zsAt F T n s).length) (hm : (zsAt F T n s).getD k 0 = (m : Int)) (hd : D m = true) : deadB n F T D s = true := by
  unfold deadB
  refine List.any_eq_true.2 ⟨(zsAt F T n s).getD k 0, ?_, by rw [hm]; simpa using hd⟩
  rw [List.getD_eq_getElem?_getD, List.getElem?_eq_getElem h]; exact List.getElem_mem h

theorem dead_no {F T : Nat → Int} {n : Nat} {s : Int} {D : Nat → Bool} (h : ∀ k, k < (zsAt F T n s).length → D ((zsAt F T n s).getD k 0).toNat = false) : deadB n F T D s = false := by
  unfold deadB
  rw [List.any_eq_false]
  intro z hz
  obtain ⟨k, hk, rfl⟩ := List.mem_iff_getElem.1 hz
  have := h k hk
  rw [List.getD_eq_getElem?_getD, List.getElem?_eq_getElem hk] at this
  simpa using this

theorem oneI {w : World} {g e m n k : Nat} {f : Nat → Value} {zs : List Int} (h : Blk w g e m f) (hm : n * 1 ≤ m) (hk : k < n) (hf : ∀ i, i < n → ∀ j, j < 1 → f (i * 1 + j) = ints zs i j) : w.cell? ⟨g, k, none⟩ = some (.int .i64 (zs.getD k 0)) := by
  rw [h.cell (by omega)]
  have := hf k hk 0 (by omega)
  simp only [Nat.mul_one, Nat.add_zero] at this
  rw [this]; rfl

set_option maxHeartbeats 1000000 in
theorem l2dead_any (S s : Int) (g n lo hi : Nat) (F T : Nat → Int) (vd : Value) (D : Nat → Bool) (w : World) (hrow : Row w g 88 2 n (two F T)) (hl : lokZ S n F T = 0) (h0 : 0 ≤ s) (h1 : s < S) (hd : SlF w 4 1 lo hi vd n (bools D)) :
    Calls Try.prog 57 #[.agg #[.int .i64 S, .slice (some ⟨g, 0, none⟩) n n], vd, .int .i64 s] w fun e w' => e = .returned (.bool (deadB n F T D s)) ∧ Below w.heap.size w w' := by
  have ea : arZ S n F T s = zsAt F T n s := by unfold arZ; rw [if_pos ⟨hl, h0, h1⟩]
  obtain ⟨r1, r2, r3⟩ := (show 1 ≤ S ∧ S ≤ 60 ∧ n ≤ 120 by have := lok_facts hl; omega)
  have hz := zsAt_len F T n s
  obtain ⟨ad, cd, rfl, hd0⟩ := hd
  go_enter Try.func57, Try.ntmps57
  go_wp2_with fail
  refine (specAround_any S s g n F T _ (hrow.alloc _)).mono ?_
  rw [ea]
  rintro e w1 ⟨v, rfl, ho, hb1⟩
  obtain ⟨az, cz, rfl, hz0⟩ := SlF.of_owns ho
  have B1 := below_on (show Below w.heap.size w _ from (by repeat (first | exact Below.refl _ _ | assumption | refine below_alloc ?_ _ | refine Below.setCell ?_ (by first | omega | (simp; done) | (simp; omega)) _ | refine Below.alloc ?_ (by first | omega | (simp; done) | (simp; omega)) _ | refine Below.drew ?_))) hb1
  clear hb1 ho ea hl
  go_wp2
  go_loopw [13] (fun i wr => ∃ k : Nat, k ≤ (zsAt F T n s).length ∧ i = .int .i64 k ∧ Below w1.heap.size w1 wr ∧ ∀ j, j < k → D ((zsAt F T n s).getD j 0).toNat = false) (fun i _ => (zsAt F T n s).length - (intOf i).toNat)
  case atStart => exact ⟨0, Nat.zero_le _, rfl, Below.refl _ _, fun j hj => by omega⟩
  case round =>
    obtain ⟨k, hk, rfl, hbel, hgood⟩ := hrel
    have B2 := below_on B1 hbel
    by_cases hlt : k < (zsAt F T n s).length
    · rcases hz0 with hz0 | ⟨gz, mz, fz, rfl, _, _, z2, z3, z4⟩
      · omega
      obtain ⟨m, hm, em⟩ := zs_get hlt
      rcases hd0 with hd0 | ⟨gd, md, fd, rfl, _, _, d2, d3, d4⟩
      · omega
      have c0 := oneI (z3.on hbel) z2 hlt z4
      rw [em] at c0
      have c1 := one (d3.on B2) d2 hm d4
      have hm' : (m : Int) < (n : Int) := by omega
      have hk' : (k : Int) < ((zsAt F T n s).length : Int) := by omega
      have HG : Hid (∀ j, j < k → D ((zsAt F T n s).getD j 0).toNat = false) := hgood
      have HM : Hid ((zsAt F T n s).getD k 0 = (m : Int)) := em
      clear z3 z4 d3 d4 hgood em hrow
      by_cases hdm : D m = true
      · rw [hdm] at c1
        have ed : Hid (deadB n F T D s = true) := dead_yes hlt HM.out hdm
        go_wp2
        go_ret
        exact ⟨by rw [ed.out]; rfl, B2⟩
      · have hdm' : D m = false := by simpa using hdm
        rw [hdm'] at c1
        go_wp2
        go_roundw
        case rel =>
          refine ⟨k + 1, by omega, by go_num, hbel, fun j hj => ?_⟩
          rcases (show j < k ∨ j = k by omega) with h | rfl
          · exact HG.out j h
          · rw [HM.out]; simpa using hdm'
        case measure => simp [intOf]; omega
    · have ed : Hid (deadB n F T D s = false) := dead_no (fun j hj => hgood j (by omega))
      go_wp2
      go_ret
      exact ⟨by rw [ed.out]; rfl, B2⟩

theorem told_dead {x : Sec} : toldZ true x = 3 := rfl
theorem told_lost {x : Sec} (h : x.lost = true) : toldZ false x = 1 := by simp [toldZ, h]
theorem told_occ {x : Sec} (h : x.lost = false) (h1 : x.count ≠ 0) (h2 : x.sweep = false) : toldZ false x = 1 := by simp [toldZ, h, h1, h2]
theorem told_sw {x : Sec} (h : x.lost = false) (h2 : x.sweep = true) : toldZ false x = 2 := by simp [toldZ, h, h2]
theorem told_free {x : Sec} (h : x.lost = false) (h1 : x.count = 0) (h2 : x.sweep = false) : toldZ false x = 0 := by simp [toldZ, h, h1, h2]

set_option maxHeartbeats 1000000 in
theorem l2told_any (S s : Int) (g n lo hi : Nat) (F T : Nat → Int) (vd : Value) (D : Nat → Bool) (x : Sec) (w : World) (hrow : Row w g 88 2 n (two F T)) (hl : lokZ S n F T = 0) (h0 : 0 ≤ s) (h1 : s < S) (hd : SlF w 4 1 lo hi vd n (bools D)) :
    Calls Try.prog 58 #[.agg #[.int .i64 S, .slice (some ⟨g, 0, none⟩) n n], vd, .int .i64 s, .agg #[.int .i64 x.told, .int .i64 x.count, .bool x.lost, .bool x.sweep, .int .i64 x.last]] w fun e w' => e = .returned (.int .i64 (toldZ (deadB n F T D s) x)) ∧ Below w.heap.size w w' := by
  have hc := fun o o' => l2dead_any S s g n lo hi F T vd D _ ((hrow.alloc o).alloc o') hl h0 h1 ((hd.alloc o).alloc o')
  clear hrow hl hd
  obtain ⟨told, count, lost, sweep, last⟩ := x
  cases hdd : deadB n F T D s
  · cases lost
    · cases sweep
      · by_cases h : count = 0
        · subst h
          rw [told_free rfl rfl rfl]
          rw [hdd] at hc
          go_enter Try.func58, Try.ntmps58
          go_wp2_with fail
          refine (hc _ _).mono ?_
          rintro e w1 ⟨rfl, hb1⟩
          obtain ⟨q1, q2⟩ := bcell hb1
          have B1 := below_on (show Below w.heap.size w _ from (by repeat (first | exact Below.refl _ _ | assumption | refine below_alloc ?_ _ | refine Below.setCell ?_ (by first | omega | (simp; done) | (simp; omega)) _ | refine Below.alloc ?_ (by first | omega | (simp; done) | (simp; omega)) _ | refine Below.drew ?_))) hb1
          clear hb1
          go_wp2
          go_ret
          exact ⟨rfl, B1⟩
        · rw [told_occ rfl h rfl]
          rw [hdd] at hc
          go_enter Try.func58, Try.ntmps58
          go_wp2_with fail
          refine (hc _ _).mono ?_
          rintro e w1 ⟨rfl, hb1⟩
          obtain ⟨q1, q2⟩ := bcell hb1
          have B1 := below_on (show Below w.heap.size w _ from (by repeat (first | exact Below.refl _ _ | assumption | refine below_alloc ?_ _ | refine Below.setCell ?_ (by first | omega | (simp; done) | (simp; omega)) _ | refine Below.alloc ?_ (by first | omega | (simp; done) | (simp; omega)) _ | refine Below.drew ?_))) hb1
          clear hb1
          go_wp2
          go_ret
          exact ⟨rfl, B1⟩
      · rw [told_sw rfl rfl]
        rw [hdd] at hc
        have hcount : (count != 0) = true ∨ (count != 0) = false := by cases (count != 0) <;> simp
        rcases hcount with h | h
        all_goals
          go_enter Try.func58, Try.ntmps58
          go_wp2_with fail
          refine (hc _ _).mono ?_
          rintro e w1 ⟨rfl, hb1⟩
          obtain ⟨q1, q2⟩ := bcell hb1
          have B1 := below_on (show Below w.heap.size w _ from (by repeat (first | exact Below.refl _ _ | assumption | refine below_alloc ?_ _ | refine Below.setCell ?_ (by first | omega | (simp; done) | (simp; omega)) _ | refine Below.alloc ?_ (by first | omega | (simp; done) | (simp; omega)) _ | refine Below.drew ?_))) hb1
          clear hb1
          go_wp2
          go_ret
          exact ⟨rfl, B1⟩
    · rw [told_lost rfl]
      rw [hdd] at hc
      go_enter Try.func58, Try.ntmps58
      go_wp2_with fail
      refine (hc _ _).mono ?_
      rintro e w1 ⟨rfl, hb1⟩
      obtain ⟨q1, q2⟩ := bcell hb1
      have B1 := below_on (show Below w.heap.size w _ from (by repeat (first | exact Below.refl _ _ | assumption | refine below_alloc ?_ _ | refine Below.setCell ?_ (by first | omega | (simp; done) | (simp; omega)) _ | refine Below.alloc ?_ (by first | omega | (simp; done) | (simp; omega)) _ | refine Below.drew ?_))) hb1
      clear hb1
      go_wp2
      go_ret
      exact ⟨rfl, B1⟩
  · rw [told_dead]
    rw [hdd] at hc
    go_enter Try.func58, Try.ntmps58
    go_wp2_with fail
    refine (hc _ _).mono ?_
    rintro e w1 ⟨rfl, hb1⟩
    have B1 := below_on (show Below w.heap.size w _ from (by repeat (first | exact Below.refl _ _ | assumption | refine below_alloc ?_ _ | refine Below.setCell ?_ (by first | omega | (simp; done) | (simp; omega)) _ | refine Below.alloc ?_ (by first | omega | (simp; done) | (simp; omega)) _ | refine Below.drew ?_))) hb1
    clear hb1
    go_wp2
    go_ret
    exact ⟨rfl, B1⟩

end Go.Proofs.Ytlpopfhaephfaab
