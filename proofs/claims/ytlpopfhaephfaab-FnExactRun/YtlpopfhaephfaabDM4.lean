import Derived.Test.YtlpopfhaephfaabDM3
import Derived.Handy
namespace Go.Proofs.Ytlpopfhaephfaab
open Go.RowKit Go.Maps Go.Sort

def lostAt (X : Nat → Sec) (k : Nat) : Nat → Sec := fun i => if i = k then ⟨(X k).told, (X k).count, true, (X k).sweep, (X k).last⟩ else X i
def lostSide (X : Nat → Sec) (side : Int) : Nat → Sec := if side < 0 then X else lostAt X side.toNat
def setB (D : Nat → Bool) (f : Nat) (b : Bool) : Nat → Bool := fun i => if i = f then b else D i
def resetAt (X : Nat → Sec) (k : Nat) : Nat → Sec := fun i => if i = k then ⟨0, 0, false, true, 0⟩ else X i

theorem SlF.setLost {w : World} {lo hi gs ns c1 k : Nat} {X : Nat → Sec} (h : SlF w 93 5 lo hi (.slice (some ⟨gs, 0, none⟩) ns c1) ns (secs X)) (hk : k < ns) : SlF (w.setCell ⟨gs, k * 5 + 2, none⟩ (.bool true)) 93 5 lo hi (.slice (some ⟨gs, 0, none⟩) ns c1) ns (secs (lostAt X k)) :=
  (h.set hk (j := 2) (by omega) _).congr fun i hi j hj => by
    by_cases e : i = k
    · subst e
      match j, hj with
      | 0, _ => simp [secs, scell, lostAt]
      | 1, _ => simp [secs, scell, lostAt]
      | 2, _ => simp [secs, scell, lostAt]
      | 3, _ => simp [secs, scell, lostAt]
      | 4, _ => simp [secs, scell, lostAt]
    · simp [secs, lostAt, e]

theorem SlF.setB {w : World} {lo hi gd n c2 f : Nat} {D : Nat → Bool} (h : SlF w 4 1 lo hi (.slice (some ⟨gd, 0, none⟩) n c2) n (bools D)) (hf : f < n) (b : Bool) : SlF (w.setCell ⟨gd, f, none⟩ (.bool b)) 4 1 lo hi (.slice (some ⟨gd, 0, none⟩) n c2) n (bools (setB D f b)) := by
  have := (h.set hf (j := 0) (by omega) (.bool b)).congr (G' := bools (Go.Proofs.Ytlpopfhaephfaab.setB D f b)) fun i hi j hj => by
    have hj0 : j = 0 := by omega
    subst hj0
    by_cases e : i = f
    · subst e; simp [bools, Go.Proofs.Ytlpopfhaephfaab.setB]
    · simp [bools, Go.Proofs.Ytlpopfhaephfaab.setB, e]
  simpa using this

theorem SlF.turnSet {w : World} {e sz lo hi g n cap : Nat} {G : Nat → Nat → Value} (h : SlF w e sz lo hi (.slice (some ⟨g, 0, none⟩) n cap) n G) (hn : 0 < n) (i : Nat) (u : Value) : Turned w (w.setCell ⟨g, i, none⟩ u) (· = e) lo hi := by
  obtain ⟨l1, l2, m, f, b1, b2, b3⟩ := h.blk hn
  exact Turned.of_grown (grown_set (World.grownBy.refl _ _) _) l1 l2 rfl b2

/-- a counter's death, in memory -/
theorem die_end {w : World} {lo hi gs ns c1 gd n c2 f : Nat} {X : Nat → Sec} {D : Nat → Bool} (h : Lst w lo hi (.slice (some ⟨gs, 0, none⟩) ns c1) ns X (.slice (some ⟨gd, 0, none⟩) n c2) n D) (hf : f < n) (b : Bool) :
    Lst (w.setCell ⟨gd, f, none⟩ (.bool b)) lo hi (.slice (some ⟨gs, 0, none⟩) ns c1) ns X (.slice (some ⟨gd, 0, none⟩) n c2) n (setB D f b) ∧ Turned w (w.setCell ⟨gd, f, none⟩ (.bool b)) isSt lo hi := by
  have t := h.2.turnSet (by omega) f (.bool b)
  exact ⟨⟨h.1.turned t (.inl (by decide)), h.2.setB hf b⟩, t.sb⟩
theorem lost_end {w : World} {lo hi gs ns c1 n k : Nat} {v2 : Value} {X : Nat → Sec} {D : Nat → Bool} (h : Lst w lo hi (.slice (some ⟨gs, 0, none⟩) ns c1) ns X v2 n D) (hk : k < ns) :
    Lst (w.setCell ⟨gs, k * 5 + 2, none⟩ (.bool true)) lo hi (.slice (some ⟨gs, 0, none⟩) ns c1) ns (lostAt X k) v2 n D ∧ Turned w (w.setCell ⟨gs, k * 5 + 2, none⟩ (.bool true)) isSt lo hi := by
  have t := h.1.turnSet (by omega) (k * 5 + 2) (.bool true)
  exact ⟨⟨h.1.setLost hk, h.2.turned t (.inl (by decide))⟩, t.st⟩

set_option maxHeartbeats 1000000 in
theorem die_any (S : Int) (g n B lo hi : Nat) (F T : Nat → Int) (ok : Bool) (gs c1 ns f gd c2 : Nat) (X : Nat → Sec) (D : Nat → Bool) (w : World) (hf : f < n) (hn : n ≤ 120) (hp : 0 < ns) (hr : -1 ≤ F f ∧ F f < (ns : Int) ∧ -1 ≤ T f ∧ T f < (ns : Int) ∧ F f ≠ T f)
    (hrow : Row w g 88 2 n (two F T)) (hL : Lst w lo hi (.slice (some ⟨gs, 0, none⟩) ns c1) ns X (.slice (some ⟨gd, 0, none⟩) n c2) n D) :
    Calls Try.prog 106 #[.agg #[.int .i64 S, .slice (some ⟨g, 0, none⟩) n n, .map (some B), .bool ok, .slice (some ⟨gs, 0, none⟩) ns c1, .slice (some ⟨gd, 0, none⟩) n c2], .int .i64 f] w fun e w' => e = .returned (.int .i64 0) ∧ Lst w' lo hi (.slice (some ⟨gs, 0, none⟩) ns c1) ns (lostSide (lostSide X (F f)) (T f)) (.slice (some ⟨gd, 0, none⟩) n c2) n (setB D f true) ∧ Turned w w' isSt lo hi := by
  obtain ⟨_, _, ms, fs, b1, b2, b3⟩ := hL.1.blk hp
  obtain ⟨_, _, md, fd, d1, d2, d3⟩ := hL.2.blk (by omega)
  have c0 := hrow.cell0 hf (by omega)
  have c1' := hrow.cell (j := 1) hf (by omega)
  simp only [two] at c0 c1'
  have ed := one d2 d1 hf d3
  have zd := d2.frozen f
  have lgs := b2.lt
  have lgd := d2.lt
  have lg := hrow.lt
  have n1 : gs ≠ gd := fun e => by subst e; exact absurd (b2.type_eq d2) (by decide)
  have n2 : g ≠ gd := fun e => by subst e; exact absurd (Blk.type_eq hrow d2) (by decide)
  have n3 : g ≠ gs := fun e => by subst e; exact absurd (Blk.type_eq hrow b2) (by decide)
  have n1' : gd ≠ gs := fun e => n1 e.symm
  have n2' : gd ≠ g := fun e => n2 e.symm
  have n3' : gs ≠ g := fun e => n3 e.symm
  have q1 : gs < w.heap.size + 1 := by omega
  have q2 : gs < w.heap.size + 1 + 1 := by omega
  have q3 : gd < w.heap.size + 1 := by omega
  have q4 : gd < w.heap.size + 1 + 1 := by omega
  have q5 : g < w.heap.size + 1 := by omega
  have q6 : g < w.heap.size + 1 + 1 := by omega
  have hf' : (f : Int) < (n : Int) := by omega
  obtain ⟨fF, eF⟩ : ∃ fF, F f = fF := ⟨_, rfl⟩
  obtain ⟨fT, eT⟩ : ∃ fT, T f = fT := ⟨_, rfl⟩
  rw [eF, eT] at hr ⊢
  simp [eF] at c0
  simp [eT] at c1'
  obtain ⟨r1, r2, r3, r4, r5⟩ := hr
  have E1 := die_end hL hf true
  have HE1 : Hid _ := E1
  clear d2 d3 hrow E1 eF eT
  rcases (show (fF = -1 ∧ 0 ≤ fT) ∨ (0 ≤ fF ∧ fT = -1) ∨ (0 ≤ fF ∧ 0 ≤ fT) by omega) with ⟨rfl, h2⟩ | ⟨h1, rfl⟩ | ⟨h1, h2⟩
  · obtain ⟨k, rfl⟩ : ∃ k : Nat, fT = (k : Int) := ⟨fT.toNat, by omega⟩
    have hk : k < ns := by omega
    obtain ⟨e0, e1, e2, e3, e4⟩ := five b2 b1 hk b3
    have z2 := b2.frozen (k * 5 + 2)
    have E2 := lost_end HE1.out.1 hk
    have HE2 : Hid _ := E2
    clear E2 b2 b3 e0 e1 e3 e4 hL
    have x1 : lostSide (lostSide X (-1)) (k : Int) = lostAt X k := by unfold lostSide; rw [if_neg (by omega), if_pos (by omega)]; simp
    rw [x1]
    go_enter Try.func106, Try.ntmps106
    go_wp2
    go_rounds 3
    go_ret
    refine ⟨rfl, HE2.out.1.on ?_, (HE1.out.2.trans HE2.out.2).trans (Turned.of_below ?_)⟩
    · exact (by repeat (first | exact Below.refl _ _ | assumption | refine below_alloc ?_ _ | refine Below.setCell ?_ (by first | omega | (simp; done) | (simp; omega)) _ | refine Below.alloc ?_ (by first | omega | (simp; done) | (simp; omega)) _ | refine Below.drew ?_))
    · exact (by repeat (first | exact Below.refl _ _ | assumption | refine below_alloc ?_ _ | refine Below.setCell ?_ (by first | omega | (simp; done) | (simp; omega)) _ | refine Below.alloc ?_ (by first | omega | (simp; done) | (simp; omega)) _ | refine Below.drew ?_))
  · obtain ⟨k, rfl⟩ : ∃ k : Nat, fF = (k : Int) := ⟨fF.toNat, by omega⟩
    have hk : k < ns := by omega
    obtain ⟨e0, e1, e2, e3, e4⟩ := five b2 b1 hk b3
    have z2 := b2.frozen (k * 5 + 2)
    have E2 := lost_end HE1.out.1 hk
    have HE2 : Hid _ := E2
    clear E2 b2 b3 e0 e1 e3 e4 hL
    have x1 : lostSide (lostSide X (k : Int)) (-1) = lostAt X k := by unfold lostSide; rw [if_pos (by omega), if_neg (by omega)]; simp
    rw [x1]
    go_enter Try.func106, Try.ntmps106
    go_wp2
    go_rounds 3
    go_ret
    refine ⟨rfl, HE2.out.1.on ?_, (HE1.out.2.trans HE2.out.2).trans (Turned.of_below ?_)⟩
    · exact (by repeat (first | exact Below.refl _ _ | assumption | refine below_alloc ?_ _ | refine Below.setCell ?_ (by first | omega | (simp; done) | (simp; omega)) _ | refine Below.alloc ?_ (by first | omega | (simp; done) | (simp; omega)) _ | refine Below.drew ?_))
    · exact (by repeat (first | exact Below.refl _ _ | assumption | refine below_alloc ?_ _ | refine Below.setCell ?_ (by first | omega | (simp; done) | (simp; omega)) _ | refine Below.alloc ?_ (by first | omega | (simp; done) | (simp; omega)) _ | refine Below.drew ?_))
  · obtain ⟨k, rfl⟩ : ∃ k : Nat, fF = (k : Int) := ⟨fF.toNat, by omega⟩
    obtain ⟨j, rfl⟩ : ∃ j : Nat, fT = (j : Int) := ⟨fT.toNat, by omega⟩
    have hk : k < ns := by omega
    have hj : j < ns := by omega
    have hkj : ¬ k = j := by omega
    have e2 := (five b2 b1 hk b3).2.2.1
    have e2' := (five b2 b1 hj b3).2.2.1
    have z2 := b2.frozen (k * 5 + 2)
    have z2' := b2.frozen (j * 5 + 2)
    have E2 := lost_end HE1.out.1 hk
    have E3 := lost_end E2.1 hj
    have HE2 : Hid _ := E2
    have HE3 : Hid _ := E3
    clear E2 E3 b2 b3 hL
    have x1 : lostSide (lostSide X (k : Int)) (j : Int) = lostAt (lostAt X k) j := by unfold lostSide; rw [if_neg (by omega), if_neg (by omega)]; simp
    rw [x1]
    have y1 : ¬ j * 5 + 2 = k * 5 + 2 := by omega
    have y2 : ¬ k * 5 + 2 = j * 5 + 2 := by omega
    go_enter Try.func106, Try.ntmps106
    go_wp2
    go_rounds 3
    go_ret
    refine ⟨rfl, HE3.out.1.on ?_, ((HE1.out.2.trans HE2.out.2).trans HE3.out.2).trans (Turned.of_below ?_)⟩
    · exact (by repeat (first | exact Below.refl _ _ | assumption | refine below_alloc ?_ _ | refine Below.setCell ?_ (by first | omega | (simp; done) | (simp; omega)) _ | refine Below.alloc ?_ (by first | omega | (simp; done) | (simp; omega)) _ | refine Below.drew ?_))
    · exact (by repeat (first | exact Below.refl _ _ | assumption | refine below_alloc ?_ _ | refine Below.setCell ?_ (by first | omega | (simp; done) | (simp; omega)) _ | refine Below.alloc ?_ (by first | omega | (simp; done) | (simp; omega)) _ | refine Below.drew ?_))

theorem reset_end {w : World} {lo hi gs ns c1 n k : Nat} {v2 : Value} {X : Nat → Sec} {D : Nat → Bool} (h : Lst w lo hi (.slice (some ⟨gs, 0, none⟩) ns c1) ns X v2 n D) (hk : k < ns) :
    Lst (((((w.setCell ⟨gs, k * 5, none⟩ (.int .i64 0)).setCell ⟨gs, k * 5 + 1, none⟩ (.int .i64 0)).setCell ⟨gs, k * 5 + 2, none⟩ (.bool false)).setCell ⟨gs, k * 5 + 3, none⟩ (.bool true)).setCell ⟨gs, k * 5 + 4, none⟩ (.int .i64 0)) lo hi (.slice (some ⟨gs, 0, none⟩) ns c1) ns (resetAt X k) v2 n D ∧ Turned w (((((w.setCell ⟨gs, k * 5, none⟩ (.int .i64 0)).setCell ⟨gs, k * 5 + 1, none⟩ (.int .i64 0)).setCell ⟨gs, k * 5 + 2, none⟩ (.bool false)).setCell ⟨gs, k * 5 + 3, none⟩ (.bool true)).setCell ⟨gs, k * 5 + 4, none⟩ (.int .i64 0)) isSt lo hi := by
  obtain ⟨l1, l2, m, f, b1, b2, b3⟩ := h.1.blk (by omega)
  have t : Turned w (((((w.setCell ⟨gs, k * 5, none⟩ (.int .i64 0)).setCell ⟨gs, k * 5 + 1, none⟩ (.int .i64 0)).setCell ⟨gs, k * 5 + 2, none⟩ (.bool false)).setCell ⟨gs, k * 5 + 3, none⟩ (.bool true)).setCell ⟨gs, k * 5 + 4, none⟩ (.int .i64 0)) (· = 93) lo hi :=
    Turned.of_grown (grown_set (grown_set (grown_set (grown_set (grown_set (World.grownBy.refl _ _) _) _) _) _) _) l1 l2 rfl b2
  refine ⟨⟨(((((h.1.set hk (j := 0) (by omega) _).set hk (j := 1) (by omega) _).set hk (j := 2) (by omega) _).set hk (j := 3) (by omega) _).set hk (j := 4) (by omega) _).congr fun i hi j hj => ?_, h.2.turned t (.inl (by decide))⟩, t.st⟩
  by_cases e : i = k
  · subst e
    match j, hj with
    | 0, _ => simp [secs, scell, resetAt]
    | 1, _ => simp [secs, scell, resetAt]
    | 2, _ => simp [secs, scell, resetAt]
    | 3, _ => simp [secs, scell, resetAt]
    | 4, _ => simp [secs, scell, resetAt]
  · simp [secs, resetAt, e]

/-- what a reset answers, and the sections behind it -/
def rstC (n : Nat) (F T : Nat → Int) (X : Nat → Sec) (D : Nat → Bool) (k : Nat) : Int := if deadB n F T D (k : Int) then 3 else if (X k).last = 1 then 4 else 0
def rstY (n : Nat) (F T : Nat → Int) (X : Nat → Sec) (D : Nat → Bool) (k : Nat) : Nat → Sec := if deadB n F T D (k : Int) then X else if (X k).last = 1 then X else resetAt X k

set_option maxHeartbeats 1000000 in
theorem reset_any (S : Int) (g n B lo hi : Nat) (F T : Nat → Int) (ok : Bool) (gs c1 ns k : Nat) (a2 : Option Addr) (c2 : Nat) (X : Nat → Sec) (D : Nat → Bool) (w : World) (hk : k < ns) (hn : n ≤ 120) (hns : ns ≤ 60) (hg : Grp w B (2 * n) (zsAt F T n)) (hL : Lst w lo hi (.slice (some ⟨gs, 0, none⟩) ns c1) ns X (.slice a2 n c2) n D) :
    Calls Try.prog 107 #[.agg #[.int .i64 S, .slice (some ⟨g, 0, none⟩) n n, .map (some B), .bool ok, .slice (some ⟨gs, 0, none⟩) ns c1, .slice a2 n c2], .int .i64 k] w fun e w' => e = .returned (.int .i64 (rstC n F T X D k)) ∧ Lst w' lo hi (.slice (some ⟨gs, 0, none⟩) ns c1) ns (rstY n F T X D k) (.slice a2 n c2) n D ∧ Turned w w' isSt lo hi := by
  have hc := fun W (hW : Below w.heap.size w W) => deadAround_any S (k : Int) g n B lo hi F T ok (some ⟨gs, 0, none⟩) a2 ns c1 c2 D W hn (by omega) (by omega) (hg.on hW) (hL.2.on hW)
  have hk' : (k : Int) < (ns : Int) := by omega
  cases hdd : deadB n F T D (k : Int)
  · rw [hdd] at hc
    by_cases hl : (X k).last = 1
    · have e1 : rstC n F T X D k = 4 := by unfold rstC; rw [hdd]; simp [hl]
      have e2 : rstY n F T X D k = X := by unfold rstY; rw [hdd]; simp [hl]
      rw [e1, e2]
      clear e1 e2
      go_enter Try.func107, Try.ntmps107
      go_wp2_with fail
      refine (hc _ (by repeat (first | exact Below.refl _ _ | assumption | refine below_alloc ?_ _ | refine Below.setCell ?_ (by first | omega | (simp; done) | (simp; omega)) _ | refine Below.alloc ?_ (by first | omega | (simp; done) | (simp; omega)) _ | refine Below.drew ?_))).mono ?_
      rintro e w1 ⟨rfl, hb1⟩
      obtain ⟨q1, q2⟩ := bcell hb1
      have B1 := below_on (show Below w.heap.size w _ from (by repeat (first | exact Below.refl _ _ | assumption | refine below_alloc ?_ _ | refine Below.setCell ?_ (by first | omega | (simp; done) | (simp; omega)) _ | refine Below.alloc ?_ (by first | omega | (simp; done) | (simp; omega)) _ | refine Below.drew ?_))) hb1
      have L1 := hL.on B1
      obtain ⟨_, _, m, f, b1, b2, b3⟩ := L1.1.blk (by omega)
      have e4 := (five b2 b1 hk b3).2.2.2.2
      rw [hl] at e4
      clear hb1 hc b2 b3
      go_wp2
      go_ret
      exact ⟨rfl, L1, Turned.of_below B1⟩
    · have e1 : rstC n F T X D k = 0 := by unfold rstC; rw [hdd]; simp [hl]
      have e2 : rstY n F T X D k = resetAt X k := by unfold rstY; rw [hdd]; simp [hl]
      have hl' : ((X k).last == 1) = false := by simp [hl]
      rw [e1, e2]
      clear e1 e2 hl
      go_enter Try.func107, Try.ntmps107
      go_wp2_with fail
      refine (hc _ (by repeat (first | exact Below.refl _ _ | assumption | refine below_alloc ?_ _ | refine Below.setCell ?_ (by first | omega | (simp; done) | (simp; omega)) _ | refine Below.alloc ?_ (by first | omega | (simp; done) | (simp; omega)) _ | refine Below.drew ?_))).mono ?_
      rintro e w1 ⟨rfl, hb1⟩
      obtain ⟨q1, q2⟩ := bcell hb1
      have B1 := below_on (show Below w.heap.size w _ from (by repeat (first | exact Below.refl _ _ | assumption | refine below_alloc ?_ _ | refine Below.setCell ?_ (by first | omega | (simp; done) | (simp; omega)) _ | refine Below.alloc ?_ (by first | omega | (simp; done) | (simp; omega)) _ | refine Below.drew ?_))) hb1
      have L1 := hL.on B1
      have E := reset_end L1 hk
      obtain ⟨_, _, m, f, b1, b2, b3⟩ := L1.1.blk (by omega)
      obtain ⟨e0, e1, e2, e3, e4⟩ := five b2 b1 hk b3
      have z0 := b2.frozen (k * 5)
      have z1 := b2.frozen (k * 5 + 1)
      have z2 := b2.frozen (k * 5 + 2)
      have z3 := b2.frozen (k * 5 + 3)
      have z4 := b2.frozen (k * 5 + 4)
      have HE : Hid _ := E
      clear hb1 hc b2 b3 E
      go_wp2
      go_ret
      exact ⟨rfl, HE.out.1, (Turned.of_below B1).trans HE.out.2⟩
  · rw [hdd] at hc
    have e1 : rstC n F T X D k = 3 := by unfold rstC; rw [hdd]; simp
    have e2 : rstY n F T X D k = X := by unfold rstY; rw [hdd]; simp
    rw [e1, e2]
    clear e1 e2
    go_enter Try.func107, Try.ntmps107
    go_wp2_with fail
    refine (hc _ (by repeat (first | exact Below.refl _ _ | assumption | refine below_alloc ?_ _ | refine Below.setCell ?_ (by first | omega | (simp; done) | (simp; omega)) _ | refine Below.alloc ?_ (by first | omega | (simp; done) | (simp; omega)) _ | refine Below.drew ?_))).mono ?_
    rintro e w1 ⟨rfl, hb1⟩
    have B1 := below_on (show Below w.heap.size w _ from (by repeat (first | exact Below.refl _ _ | assumption | refine below_alloc ?_ _ | refine Below.setCell ?_ (by first | omega | (simp; done) | (simp; omega)) _ | refine Below.alloc ?_ (by first | omega | (simp; done) | (simp; omega)) _ | refine Below.drew ?_))) hb1
    go_wp2
    go_ret
    exact ⟨rfl, hL.on B1, Turned.of_below B1⟩

end Go.Proofs.Ytlpopfhaephfaab
