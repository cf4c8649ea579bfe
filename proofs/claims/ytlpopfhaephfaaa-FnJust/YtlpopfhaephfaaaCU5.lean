import Derived.Test.YtlpopfhaephfaaaCUE
import Derived.Test.YtlpopfhaephfaaaCU4
namespace Go.Proofs.Ytlpopfhaephfaaa
open Go.RowKit

/-- what is asked of events at a way of drawing -/
def EvC (hon : Bool) : Prop := ∀ (B p m cap : Nat) (ao : Option Addr) (C : Nat → Int) (c : Cu) (g n ns : Nat) (F T : Nat → Int) (w : World), Cur w B p ao m cap C c → c.pos < 1000 → CRow w g n F T → lokZ (ns : Int) n F T = 0 → 0 < n →
    Calls Try.prog 49 #[.pointer (some ⟨p, 0, none⟩), .agg #[.int .i64 (ns : Int), .slice (gA g) n (gC g)], .bool hon] w fun e w' => ∃ u, e = .returned u ∧ SlF w' 45 3 w.heap.size w'.heap.size u (evL C m (ns : Int) n F T hon c).length (evs (trP (evL C m (ns : Int) n F T hon c))) ∧ Turned w w' (· = 83) p (p + 1) ∧ capB u = true

theorem events_any {hon : Bool} (hev : EvC hon) (B p m cap : Nat) (ao : Option Addr) (C : Nat → Int) (c : Cu) (g n ns : Nat) (F T : Nat → Int) (w : World) (h : Cur w B p ao m cap C c) (hq : c.pos < 1000) (hrow : CRow w g n F T) (hl : lokZ (ns : Int) n F T = 0) :
    Calls Try.prog 49 #[.pointer (some ⟨p, 0, none⟩), .agg #[.int .i64 (ns : Int), .slice (gA g) n (gC g)], .bool hon] w fun e w' => ∃ u, e = .returned u ∧ SlF w' 45 3 w.heap.size w'.heap.size u (evL C m (ns : Int) n F T hon c).length (evs (trP (evL C m (ns : Int) n F T hon c))) ∧ Turned w w' (· = 83) p (p + 1) ∧ capB u = true := by
  rcases Nat.eq_zero_or_pos n with rfl | hn
  · exact events_none B p m cap ao C c g ns F T hon w h hq hrow hl
  · exact hev B p m cap ao C c g n ns F T w h hq hrow hl hn

/-- what is drawn: the sections, the counters, the events -/
def drS (C : Nat → Int) (m : Nat) : Nat := lyS C m ⟨0, 0⟩
def drL (C : Nat → Int) (m : Nat) : List (Int × Int) := (lyZ C m ⟨0, 0⟩).2
def drE (C : Nat → Int) (m : Nat) (hon : Bool) : List (Int × Int × Int) := evL C m (drS C m : Int) (drL C m).length (fstF (drL C m)) (sndF (drL C m)) hon (lyZ C m ⟨0, 0⟩).1
theorem dr_ok (C : Nat → Int) (m : Nat) : lokZ (drS C m : Int) (drL C m).length (fstF (drL C m)) (sndF (drL C m)) = 0 := ly_ok C m ⟨0, 0⟩
theorem drS_range (C : Nat → Int) (m : Nat) : 1 ≤ drS C m ∧ drS C m ≤ 5 := (lyS_range C m ⟨0, 0⟩).2
theorem drL_len (C : Nat → Int) (m : Nat) : (drL C m).length ≤ 8 := (lyZ_facts C m ⟨0, 0⟩).2.1
theorem drE_facts (C : Nat → Int) (m : Nat) (hon : Bool) : (drE C m hon).length ≤ 29 ∧ ∀ x ∈ drE C m hon, evB (drS C m : Int) (drL C m).length x.1 x.2.1 x.2.2 = true :=
  evL_facts C m _ _ hon _ (by have := drS_range C m; omega)

/-- what lies in memory of it -/
def DrP (w w' : World) (C : Nat → Int) (m : Nat) (hon : Bool) (g : Nat) (u : Value) : Prop :=
  CRow w' g (drL C m).length (fstF (drL C m)) (sndF (drL C m)) ∧ SlF w' 45 3 w.heap.size w'.heap.size u (drE C m hon).length (evs (trP (drE C m hon))) ∧ Below w.heap.size w w' ∧ capB u = true

set_option maxRecDepth 100000 in
set_option maxHeartbeats 4000000 in
theorem drawn_of {hon : Bool} (hev : EvC hon) (m cap : Nat) (ao : Option Addr) (C : Nat → Int) (w : World) (hc : Cod w w.heap.size ao m C) (hm : m ≤ maxLen) :
    Calls Try.prog 11 #[.slice ao m cap, .bool hon] w fun e w' => ∃ g u, e = .returned (.tuple #[.agg #[.int .i64 (drS C m : Int), .slice (gA g) (drL C m).length (gC g)], u]) ∧ DrP w w' C m hon g u := by
  have zp := (lyZ_facts C m ⟨0, 0⟩).1
  simp only at zp
  have kl := fun W hW => layout_any w.heap.size (w.heap.size + 1) m cap ao C ⟨0, 0⟩ W hW (by simp)
  have ok := dr_ok C m
  have eE : drE C m hon = evL C m (drS C m : Int) (drL C m).length (fstF (drL C m)) (sndF (drL C m)) hon (lyZ C m ⟨0, 0⟩).1 := rfl
  rw [show lyS C m ⟨0, 0⟩ = drS C m from rfl, show (lyZ C m ⟨0, 0⟩).2 = drL C m from rfl] at kl
  have ke := fun g W hW hR => events_any hev w.heap.size (w.heap.size + 1) m cap ao C (lyZ C m ⟨0, 0⟩).1 g (drL C m).length (drS C m) (fstF (drL C m)) (sndF (drL C m)) W hW (by omega) hR ok
  rw [← eE] at ke
  unfold DrP
  obtain ⟨S, eS⟩ : ∃ S, drS C m = S := ⟨_, rfl⟩
  obtain ⟨L, eL⟩ : ∃ L, drL C m = L := ⟨_, rfl⟩
  obtain ⟨E, eE'⟩ : ∃ E, drE C m hon = E := ⟨_, rfl⟩
  obtain ⟨cz, ecz⟩ : ∃ cz, (lyZ C m ⟨0, 0⟩).1 = cz := ⟨_, rfl⟩
  rw [eS, eL, ecz] at kl ke
  rw [eE'] at ke
  rw [eS, eL, eE']
  clear ok eE eS eL eE' ecz zp
  have cu : Cur ((w.alloc (.cells #[.int .i64 0, .slice none 0 0] 25)).alloc (.cells #[.slice ao m cap, .int .i64 0, .int .u64 0] 83)) w.heap.size (w.heap.size + 1) ao m cap C ⟨0, 0⟩ := by
    refine ⟨?_, hc.below (by repeat (first | exact Below.refl _ _ | assumption | refine below_alloc ?_ _ | refine Below.setCell ?_ (by first | omega | (simp; done) | (simp; omega)) _ | refine Below.alloc ?_ (by first | omega | (simp; done) | (simp; omega)) _ | refine Below.drew ?_)), by omega, by simp, hm⟩
    have := Box3.lay (w.alloc (.cells #[.int .i64 0, .slice none 0 0] 25)) (.slice ao m cap) (.int .i64 0) (.int .u64 0) 83
    rwa [World.size_alloc] at this
  have rr := (Box2.lay w (.int .i64 0) (.slice none 0 0) 25).alloc (.cells #[.slice ao m cap, .int .i64 0, .int .u64 0] 83)
  go_enter Try.func11, Try.ntmps11
  go_wp2_with fail
  refine (kl _ cu).mono ?_
  rintro e w1 ⟨g, rfl, R1, C1, t1⟩
  have r1 := rr.turned t1 (.inl (by decide))
  have T1 : Below w.heap.size w w1 := (show Below w.heap.size w _ from (by repeat (first | exact Below.refl _ _ | assumption | refine below_alloc ?_ _ | refine Below.setCell ?_ (by first | omega | (simp; done) | (simp; omega)) _ | refine Below.alloc ?_ (by first | omega | (simp; done) | (simp; omega)) _ | refine Below.drew ?_))).trans (t1.below (show w.heap.size ≤ w.heap.size + 1 by omega) (by simp; omega))
  clear cu rr t1 kl
  obtain ⟨V, eV⟩ : ∃ V, w1.alloc (.cells #[.int .i64 (S : Int), .slice (gA g) L.length (gC g)] 25) = V := ⟨_, rfl⟩
  have BV : Below w.heap.size w V := by rw [← eV]; exact below_alloc T1 _
  have lV : Box2 V w1.heap.size 25 (.int .i64 (S : Int)) (.slice (gA g) L.length (gC g)) := by rw [← eV]; exact Box2.lay _ _ _ _
  have rV : Box2 V w.heap.size 25 (.int .i64 0) (.slice none 0 0) := by rw [← eV]; exact r1.alloc _
  have kV := ke g V.drew (by rw [← eV]; exact (C1.alloc _).drew) (by rw [← eV]; exact (R1.alloc _).drew)
  have BD : Below w.heap.size w V.drew := BV.drew
  have RV : CRow V g L.length (fstF L) (sndF L) := by rw [← eV]; exact R1.alloc _
  have sz := r1.lt
  obtain ⟨q, eq⟩ : ∃ q, w1.heap.size = q := ⟨_, rfl⟩
  rw [eq] at lV sz
  obtain ⟨a0, a1⟩ := lV.cells
  obtain ⟨b0, b1⟩ := rV.cells
  have la := lV.lt
  have lb := rV.lt
  have hne : ¬ w.heap.size = q := by omega
  have hne' : ¬ q = w.heap.size := by omega
  have lD : Box2 V.drew q 25 (.int .i64 (S : Int)) (.slice (gA g) L.length (gC g)) := lV
  have rD : Box2 V.drew w.heap.size 25 (.int .i64 0) (.slice none 0 0) := rV
  have RD : CRow V.drew g L.length (fstF L) (sndF L) := RV.drew
  clear ke C1 R1 r1 T1
  go_wp2_with fail
  go_region_with (go_at_call 49; refine (kV).mono ?_; rintro e w2 ⟨u, rfl, sl, t2, hcp⟩; have l2 := lD.turned t2 (.inl (by decide)); have r2 := rD.turned t2 (.inl (by decide)); obtain ⟨a0, a1⟩ := l2.cells; obtain ⟨b0, b1⟩ := r2.cells; obtain ⟨z0, z1⟩ := r2.frozen; have la := l2.lt; have lb := r2.lt)
  all_goals
    go_wp2
    have fin : Below w.heap.size w ((w2.setCell ⟨w.heap.size, 0, none⟩ (.int .i64 (S : Int))).setCell ⟨w.heap.size, 1, none⟩ (.slice (gA g) L.length (gC g))) := ((BD.trans (t2.below (by omega) (by have := BD.size; omega))).setCell (show w.heap.size ≤ (⟨w.heap.size, 0, none⟩ : Addr).block from Nat.le_refl _) _).setCell (show w.heap.size ≤ (⟨w.heap.size, 1, none⟩ : Addr).block from Nat.le_refl _) _
    have ts := Turned.of_set2 r2 (.int .i64 (S : Int)) (.slice (gA g) L.length (gC g))
    refine bodyPost_ret (v := .tuple #[.agg #[.int .i64 (S : Int), .slice (gA g) L.length (gC g)], u]) (by simp only [results, Try.results11]; simp [go_sem, b0, b1]) rfl ⟨g, u, rfl, ((RD.turned t2 (by decide)).turned ts (by decide)), ?_, fin, hcp⟩
    have := (sl.turned ts (.inl (by decide))).wide (show w.heap.size ≤ V.drew.heap.size from BD.size) (Nat.le_refl _)
    simpa [World.setCell] using this

end Go.Proofs.Ytlpopfhaephfaaa
