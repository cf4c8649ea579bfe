import Derived.Test.YtlpopfhaephfaaaDoorCU2
import Derived.Test.YtlpopfhaephfaaaDoorRE1
import Derived.Test.YtlpopfhaephfaaaDoorW3
import Derived.Deep.RegionWith
import Derived.Test.YtlpopfhaephfaaaDoorCUE
import Derived.Test.YtlpopfhaephfaaaDoorFS0
import Derived.BigQuiet
import Derived.Lib.QuietBelow
import Derived.Deep.QuietTactic
import Derived.Test.YtlpopfhaephfaaaDoorRC
import Derived.Test.YtlpopfhaephfaaaDoorGrp
import Derived.Deep.RegionLaw
namespace Go.Proofs.YtlpopfhaephfaaaDoor
open Go.RowKit

theorem Tryd.infoEx : (Tryd.prog.info? 56).map (fun i => (i.zero, i.size, i.bytes)) = some (some (.agg #[.int .i64 0, .int .i64 0, .int .i64 0]), 3, 24) := by kernel_rfl
theorem Tryd.infoIx : (Tryd.prog.info? 3).map (fun i => (i.zero, i.size, i.bytes)) = some (some (.int .i64 0), 1, 8) := by kernel_rfl

set_option maxRecDepth 100000 in
set_option maxHeartbeats 8000000 in
theorem events_none (B p m cap : Nat) (ao : Option Addr) (C : Nat → Int) (c : Cu) (g ns : Nat) (F T : Nat → Int) (hon : Bool) (w : World) (h : Cur w B p ao m cap C c) (hq : c.pos < 1000) (hrow : CRow w g 0 F T) (hl : lokZ (ns : Int) 0 F T = 0) :
    Calls Tryd.prog 22 #[.pointer (some ⟨p, 0, none⟩), .agg #[.int .i64 (ns : Int), .slice (gA g) 0 (gC g)], .bool hon] w fun e w' => ∃ u, e = .returned u ∧ SlF w' 56 3 w.heap.size w'.heap.size u (evL C m (ns : Int) 0 F T hon c).length (evs (trP (evL C m (ns : Int) 0 F T hon c))) ∧ Turned w w' (· = 61) p (p + 1) ∧ capB u = true := by
  obtain ⟨r1, r2, r3⟩ := lok_range hl
  obtain ⟨i0, hi, hz0, hz1, hz2⟩ := info_parts Tryd.infoIx
  obtain ⟨j0, gi, gz0, gz1, gz2⟩ := info_parts Tryd.infoEx
  have hpw := h.lt
  have hB := h.2.2.1
  have kc := fun o => specLayoutOk_any (ns : Int) g 0 F T _ (hrow.alloc o)
  rw [hl] at kc
  have q1 := pk_range C m c 30
  have q2 := q1.2 (by omega)
  have q3 := pk_pos C m c 30
  have eL : evL C m (ns : Int) 0 F T hon c = if 0 < pkV C m c 30 then [(5, pkV C m (pkC C m c 30) (ns : Int), 0)] else [] := by unfold evL; rw [if_pos rfl]
  rw [eL]
  obtain ⟨N, eN⟩ : ∃ N, pkV C m c 30 = N := ⟨_, rfl⟩
  rw [eN] at q1 q2 ⊢
  obtain ⟨q0, _⟩ := q1
  have s1 := pk_range C m (pkC C m c 30) (ns : Int)
  have s2 := s1.2 (by omega)
  obtain ⟨s0, _⟩ := s1
  have kp1 := fun W hW => pick_any B p m cap ao C c 30 W hW (by omega) (by omega)
  obtain ⟨c0, ec0⟩ : ∃ c0, pkC C m c 30 = c0 := ⟨_, rfl⟩
  rw [eN, ec0] at kp1
  rw [ec0] at q3 s0 s2 ⊢
  have kp2 := fun W hW => pick_any B p m cap ao C c0 (ns : Int) W hW (by omega) (by omega)
  obtain ⟨s, es⟩ : ∃ s, pkV C m c0 (ns : Int) = s := ⟨_, rfl⟩
  rw [es] at kp2 s0 s2 ⊢
  clear eN ec0 es eL
  by_cases hN : 0 < N
  · rw [if_pos hN]
    go_enter Tryd.func22, Tryd.ntmps22
    go_wp2_with fail
    refine (kc _).mono ?_
    rintro e w1 ⟨rfl, hb1⟩
    have B1 := below_on (show Below w.heap.size w _ from (by repeat (first | exact Below.refl _ _ | assumption | refine below_alloc ?_ _ | refine Below.setCell ?_ (by first | omega | (simp; done) | (simp; omega)) _ | refine Below.alloc ?_ (by first | omega | (simp; done) | (simp; omega)) _ | refine Below.drew ?_))) hb1
    have l1 := (Box2.lay w (.int .i64 (ns : Int)) (.slice (gA g) 0 (gC g)) 25).on hb1
    obtain ⟨y0, y1⟩ := l1.cells
    go_wp2_with (first
      | (at_make; refine wpList_make_full _ rfl _ _ 44 rfl w.heap.size 3 i0 _ 1 Tryd.underlying44 hi hz0 hz1 .i64 .i64 _ _ ns rfl rfl rfl rfl (by rw [hz2]; omega) (by unfold maxLen; omega) B1.size ?_; intro w2 hown hgrow))
    have hb2 : Below w1.heap.size w1 w2 := (Below.refl _ _).grown hgrow (Nat.le_refl _) (fun k hk => by simp at hk)
    have B2 := below_on B1 hb2
    have l2 := l1.on hb2
    clear hown hgrow y0 y1 l1
    go_wp2_with fail
    refine (kp1 _ (h.on B2)).mono ?_
    rintro e w3 ⟨rfl, c2, t2⟩
    have l3 := l2.turned t2 (.inl (by decide))
    have T3 : Turned w w3 (· = 61) p (p + 1) := (Turned.of_below B2).trans t2
    obtain ⟨y0, y1⟩ := l3.cells
    have lw := l3.lt
    clear t2 l2 B2 hb2 B1 hb1 kc kp1 h hrow
    go_wp2
    refine wp_loop_rounds 1 ?_
    rw [rounds_succ]
    go_wp2_with fail
    refine (kp2 _ c2).mono ?_
    rintro e w4 ⟨rfl, c4, t4⟩
    have T4 := T3.trans t4
    clear kp2 c4 t4 c2 T3 l3 y0 y1
    have ow0 : w4.ownsRow w.heap.size 56 3 (.slice none 0 0) 0 (trC []) := World.ownsRow_nil _ _ _ _
    have ownU := ow_on ow0 (show Below w4.heap.size w4 (w4.alloc (.cells #[.int .i64 5, .int .i64 s, .int .i64 0] 56)) from (by repeat (first | exact Below.refl _ _ | assumption | refine below_alloc ?_ _ | refine Below.setCell ?_ (by first | omega | (simp; done) | (simp; omega)) _ | refine Below.alloc ?_ (by first | omega | (simp; done) | (simp; omega)) _ | refine Below.drew ?_)))
    have hnw := nw_cells3 w4 (.int .i64 5) (.int .i64 s) (.int .i64 0) 56
    have h1c : ∀ x ∈ [Value.int .i64 5, .int .i64 s, .int .i64 0], x.oneCell' = true := fun x hx => by
      simp only [List.mem_cons, List.not_mem_nil, or_false] at hx
      rcases hx with rfl | rfl | rfl <;> rfl
    have hbq : w.heap.size ≤ (w4.alloc (.cells #[.int .i64 5, .int .i64 s, .int .i64 0] 56)).heap.size := by
      have := T4.size
      rw [World.size_alloc]; omega
    go_wp2_with (first
      | (at_builtin; refine wpList_append_own _ rfl _ _ 26 rfl w.heap.size 56 j0 _ 3 24 Tryd.underlying26 gi gz0 gz1 gz2 rfl (by decide) _ _ _ rfl ownU ⟨w4.heap.size, 0, none⟩ 1 1 [.int .i64 5, .int .i64 s, .int .i64 0] rfl rfl hnw h1c (by unfold maxLen; omega) (by omega) hbq ?_; intro v' w6 hown' hgrow hnil; obtain ⟨g6, cap6, rfl⟩ := ow_some hown' (by omega); have tg := ow_grown ownU hgrow))
    have sl := ow_slf (G := evs (trP [(5, s, 0)])) hown' (fun i hi j hj => trC_get [(5, s, 0)] i j hi hj)
    have fin : Turned w w6 (· = 61) p (p + 1) := T4.more ((below_alloc (Below.refl _ _) _).mono (T4.size) |>.trans (tg.below (Nat.le_refl _) hbq))
    have hcp := own_cap hown'
    go_ret
    exact ⟨_, rfl, sl, fin, hcp⟩
  · rw [if_neg hN]
    have hN0 : ¬ 0 < N := hN
    go_enter Tryd.func22, Tryd.ntmps22
    go_wp2_with fail
    refine (kc _).mono ?_
    rintro e w1 ⟨rfl, hb1⟩
    have B1 := below_on (show Below w.heap.size w _ from (by repeat (first | exact Below.refl _ _ | assumption | refine below_alloc ?_ _ | refine Below.setCell ?_ (by first | omega | (simp; done) | (simp; omega)) _ | refine Below.alloc ?_ (by first | omega | (simp; done) | (simp; omega)) _ | refine Below.drew ?_))) hb1
    have l1 := (Box2.lay w (.int .i64 (ns : Int)) (.slice (gA g) 0 (gC g)) 25).on hb1
    obtain ⟨y0, y1⟩ := l1.cells
    go_wp2_with (first
      | (at_make; refine wpList_make_full _ rfl _ _ 44 rfl w.heap.size 3 i0 _ 1 Tryd.underlying44 hi hz0 hz1 .i64 .i64 _ _ ns rfl rfl rfl rfl (by rw [hz2]; omega) (by unfold maxLen; omega) B1.size ?_; intro w2 hown hgrow))
    have hb2 : Below w1.heap.size w1 w2 := (Below.refl _ _).grown hgrow (Nat.le_refl _) (fun k hk => by simp at hk)
    have B2 := below_on B1 hb2
    have l2 := l1.on hb2
    clear hown hgrow y0 y1 l1
    go_wp2_with fail
    refine (kp1 _ (h.on B2)).mono ?_
    rintro e w3 ⟨rfl, c2, t2⟩
    have l3 := l2.turned t2 (.inl (by decide))
    have T3 : Turned w w3 (· = 61) p (p + 1) := (Turned.of_below B2).trans t2
    obtain ⟨y0, y1⟩ := l3.cells
    have lw := l3.lt
    clear t2 l2 B2 hb2 B1 hb1 kc kp1 h hrow
    go_wp2
    refine wp_loop_rounds 1 ?_
    rw [rounds_succ]
    go_wp2
    go_ret
    exact ⟨_, rfl, ⟨none, 0, rfl, .inl rfl⟩, T3, rfl⟩

end Go.Proofs.YtlpopfhaephfaaaDoor

namespace Go.Proofs.YtlpopfhaephfaaaDoor
open Go.RowKit

/-- what is asked of events at a way of drawing -/
def EvC (hon : Bool) : Prop := ∀ (B p m cap : Nat) (ao : Option Addr) (C : Nat → Int) (c : Cu) (g n ns : Nat) (F T : Nat → Int) (w : World), Cur w B p ao m cap C c → c.pos < 1000 → CRow w g n F T → lokZ (ns : Int) n F T = 0 → 0 < n →
    Calls Tryd.prog 22 #[.pointer (some ⟨p, 0, none⟩), .agg #[.int .i64 (ns : Int), .slice (gA g) n (gC g)], .bool hon] w fun e w' => ∃ u, e = .returned u ∧ SlF w' 56 3 w.heap.size w'.heap.size u (evL C m (ns : Int) n F T hon c).length (evs (trP (evL C m (ns : Int) n F T hon c))) ∧ Turned w w' (· = 61) p (p + 1) ∧ capB u = true

theorem events_any {hon : Bool} (hev : EvC hon) (B p m cap : Nat) (ao : Option Addr) (C : Nat → Int) (c : Cu) (g n ns : Nat) (F T : Nat → Int) (w : World) (h : Cur w B p ao m cap C c) (hq : c.pos < 1000) (hrow : CRow w g n F T) (hl : lokZ (ns : Int) n F T = 0) :
    Calls Tryd.prog 22 #[.pointer (some ⟨p, 0, none⟩), .agg #[.int .i64 (ns : Int), .slice (gA g) n (gC g)], .bool hon] w fun e w' => ∃ u, e = .returned u ∧ SlF w' 56 3 w.heap.size w'.heap.size u (evL C m (ns : Int) n F T hon c).length (evs (trP (evL C m (ns : Int) n F T hon c))) ∧ Turned w w' (· = 61) p (p + 1) ∧ capB u = true := by
  rcases Nat.eq_zero_or_pos n with rfl | hn
  · exact events_none B p m cap ao C c g ns F T hon w h hq hrow hl
  · exact hev B p m cap ao C c g n ns F T w h hq hrow hl hn

/-- what is drawn: the sections, the counters, the events -/
def drS (C : Nat → Int) (m : Nat) : Nat := lyS C m ⟨0, 0⟩
def drL (C : Nat → Int) (m : Nat) : List (Int × Int) := (lyZ C m ⟨0, 0⟩).2
def drE (C : Nat → Int) (m : Nat) (hon : Bool) : List (Int × Int × Int) := evL C m (drS C m : Int) (drL C m).length (fstF (drL C m)) (sndF (drL C m)) hon (lyZ C m ⟨0, 0⟩).1
theorem dr_ok (C : Nat → Int) (m : Nat) : lokZ (drS C m : Int) (drL C m).length (fstF (drL C m)) (sndF (drL C m)) = 0 := ly_ok C m ⟨0, 0⟩
theorem drS_range (C : Nat → Int) (m : Nat) : 1 ≤ drS C m ∧ drS C m ≤ 5 := (lyS_range C m ⟨0, 0⟩).2
theorem drL_len (C : Nat → Int) (m : Nat) : (drL C m).length ≤ 8 := (lyZ_facts C m ⟨0, 0⟩).2.1
theorem drE_facts (C : Nat → Int) (m : Nat) (hon : Bool) : (drE C m hon).length ≤ 29 ∧ ∀ x ∈ drE C m hon, evB (drS C m : Int) (drL C m).length x.1 x.2.1 x.2.2 = true :=
  evL_facts C m _ _ hon _ (by have := drS_range C m; omega)

/-- what lies in memory of it -/
def DrP (w w' : World) (C : Nat → Int) (m : Nat) (hon : Bool) (g : Nat) (u : Value) : Prop :=
  CRow w' g (drL C m).length (fstF (drL C m)) (sndF (drL C m)) ∧ SlF w' 56 3 w.heap.size w'.heap.size u (drE C m hon).length (evs (trP (drE C m hon))) ∧ Below w.heap.size w w' ∧ capB u = true

set_option maxRecDepth 100000 in
set_option maxHeartbeats 4000000 in
theorem drawn_of {hon : Bool} (hev : EvC hon) (m cap : Nat) (ao : Option Addr) (C : Nat → Int) (w : World) (hc : Cod w w.heap.size ao m C) (hm : m ≤ maxLen) :
    Calls Tryd.prog 6 #[.slice ao m cap, .bool hon] w fun e w' => ∃ g u, e = .returned (.tuple #[.agg #[.int .i64 (drS C m : Int), .slice (gA g) (drL C m).length (gC g)], u]) ∧ DrP w w' C m hon g u := by
  have zp := (lyZ_facts C m ⟨0, 0⟩).1
  simp only at zp
  have kl := fun W hW => layout_any w.heap.size (w.heap.size + 1) m cap ao C ⟨0, 0⟩ W hW (by simp)
  have ok := dr_ok C m
  have eE : drE C m hon = evL C m (drS C m : Int) (drL C m).length (fstF (drL C m)) (sndF (drL C m)) hon (lyZ C m ⟨0, 0⟩).1 := rfl
  rw [show lyS C m ⟨0, 0⟩ = drS C m from rfl, show (lyZ C m ⟨0, 0⟩).2 = drL C m from rfl] at kl
  have ke := fun g W hW hR => events_any hev w.heap.size (w.heap.size + 1) m cap ao C (lyZ C m ⟨0, 0⟩).1 g (drL C m).length (drS C m) (fstF (drL C m)) (sndF (drL C m)) W hW (by omega) hR ok
  rw [← eE] at ke
  unfold DrP
  obtain ⟨S, eS⟩ : ∃ S, drS C m = S := ⟨_, rfl⟩
  obtain ⟨L, eL⟩ : ∃ L, drL C m = L := ⟨_, rfl⟩
  obtain ⟨E, eE'⟩ : ∃ E, drE C m hon = E := ⟨_, rfl⟩
  obtain ⟨cz, ecz⟩ : ∃ cz, (lyZ C m ⟨0, 0⟩).1 = cz := ⟨_, rfl⟩
  rw [eS, eL, ecz] at kl ke
  rw [eE'] at ke
  rw [eS, eL, eE']
  clear ok eE eS eL eE' ecz zp
  have cu : Cur ((w.alloc (.cells #[.int .i64 0, .slice none 0 0] 25)).alloc (.cells #[.slice ao m cap, .int .i64 0, .int .u64 0] 61)) w.heap.size (w.heap.size + 1) ao m cap C ⟨0, 0⟩ := by
    refine ⟨?_, hc.below (by repeat (first | exact Below.refl _ _ | assumption | refine below_alloc ?_ _ | refine Below.setCell ?_ (by first | omega | (simp; done) | (simp; omega)) _ | refine Below.alloc ?_ (by first | omega | (simp; done) | (simp; omega)) _ | refine Below.drew ?_)), by omega, by simp, hm⟩
    have := Box3.lay (w.alloc (.cells #[.int .i64 0, .slice none 0 0] 25)) (.slice ao m cap) (.int .i64 0) (.int .u64 0) 61
    rwa [World.size_alloc] at this
  have rr := (Box2.lay w (.int .i64 0) (.slice none 0 0) 25).alloc (.cells #[.slice ao m cap, .int .i64 0, .int .u64 0] 61)
  go_enter Tryd.func6, Tryd.ntmps6
  go_wp2_with fail
  refine (kl _ cu).mono ?_
  rintro e w1 ⟨g, rfl, R1, C1, t1⟩
  have r1 := rr.turned t1 (.inl (by decide))
  have T1 : Below w.heap.size w w1 := (show Below w.heap.size w _ from (by repeat (first | exact Below.refl _ _ | assumption | refine below_alloc ?_ _ | refine Below.setCell ?_ (by first | omega | (simp; done) | (simp; omega)) _ | refine Below.alloc ?_ (by first | omega | (simp; done) | (simp; omega)) _ | refine Below.drew ?_))).trans (t1.below (show w.heap.size ≤ w.heap.size + 1 by omega) (by simp; omega))
  clear cu rr t1 kl
  obtain ⟨V, eV⟩ : ∃ V, w1.alloc (.cells #[.int .i64 (S : Int), .slice (gA g) L.length (gC g)] 25) = V := ⟨_, rfl⟩
  have BV : Below w.heap.size w V := by rw [← eV]; exact below_alloc T1 _
  have lV : Box2 V w1.heap.size 25 (.int .i64 (S : Int)) (.slice (gA g) L.length (gC g)) := by rw [← eV]; exact Box2.lay _ _ _ _
  have rV : Box2 V w.heap.size 25 (.int .i64 0) (.slice none 0 0) := by rw [← eV]; exact r1.alloc _
  have kV := ke g V.drew (by rw [← eV]; exact (C1.alloc _).drew) (by rw [← eV]; exact (R1.alloc _).drew)
  have BD : Below w.heap.size w V.drew := BV.drew
  have RV : CRow V g L.length (fstF L) (sndF L) := by rw [← eV]; exact R1.alloc _
  have sz := r1.lt
  obtain ⟨q, eq⟩ : ∃ q, w1.heap.size = q := ⟨_, rfl⟩
  rw [eq] at lV sz
  obtain ⟨a0, a1⟩ := lV.cells
  obtain ⟨b0, b1⟩ := rV.cells
  have la := lV.lt
  have lb := rV.lt
  have hne : ¬ w.heap.size = q := by omega
  have hne' : ¬ q = w.heap.size := by omega
  have lD : Box2 V.drew q 25 (.int .i64 (S : Int)) (.slice (gA g) L.length (gC g)) := lV
  have rD : Box2 V.drew w.heap.size 25 (.int .i64 0) (.slice none 0 0) := rV
  have RD : CRow V.drew g L.length (fstF L) (sndF L) := RV.drew
  clear ke C1 R1 r1 T1
  go_wp2_with fail
  go_region_with (go_at_call 22; refine (kV).mono ?_; rintro e w2 ⟨u, rfl, sl, t2, hcp⟩; have l2 := lD.turned t2 (.inl (by decide)); have r2 := rD.turned t2 (.inl (by decide)); obtain ⟨a0, a1⟩ := l2.cells; obtain ⟨b0, b1⟩ := r2.cells; obtain ⟨z0, z1⟩ := r2.frozen; have la := l2.lt; have lb := r2.lt)
  all_goals
    go_wp2
    have fin : Below w.heap.size w ((w2.setCell ⟨w.heap.size, 0, none⟩ (.int .i64 (S : Int))).setCell ⟨w.heap.size, 1, none⟩ (.slice (gA g) L.length (gC g))) := ((BD.trans (t2.below (by omega) (by have := BD.size; omega))).setCell (show w.heap.size ≤ (⟨w.heap.size, 0, none⟩ : Addr).block from Nat.le_refl _) _).setCell (show w.heap.size ≤ (⟨w.heap.size, 1, none⟩ : Addr).block from Nat.le_refl _) _
    have ts := Turned.of_set2 r2 (.int .i64 (S : Int)) (.slice (gA g) L.length (gC g))
    refine bodyPost_ret (v := .tuple #[.agg #[.int .i64 (S : Int), .slice (gA g) L.length (gC g)], u]) (by simp only [results, Tryd.results6]; simp [go_sem, b0, b1]) rfl ⟨g, u, rfl, ((RD.turned t2 (by decide)).turned ts (by decide)), ?_, fin, hcp⟩
    have := (sl.turned ts (.inl (by decide))).wide (show w.heap.size ≤ V.drew.heap.size from BD.size) (Nat.le_refl _)
    simpa [World.setCell] using this

end Go.Proofs.YtlpopfhaephfaaaDoor

namespace Go.Proofs.YtlpopfhaephfaaaDoor
open Go.RowKit

/-- a byte of the second argument -/
def wbV (C : Nat → Int) (m i : Nat) : Int := if m = 0 then 0 else C (i % m)
theorem wbV_range {w : World} {B m : Nat} {ao : Option Addr} {C : Nat → Int} (h : Cod w B ao m C) (i : Nat) : 0 ≤ wbV C m i ∧ wbV C m i < 256 := by
  unfold wbV
  split
  · omega
  · rcases h with h | ⟨b, off, _, _, h3⟩
    · omega
    · exact (h3 _ (Nat.mod_lt _ (by omega))).2

theorem wByte_any (B m cap i : Nat) (ao : Option Addr) (C : Nat → Int) (w : World) (h : Cod w B ao m C) (hm : m ≤ 1048576) (hi : i < 100) :
    Calls Tryd.prog 11 #[.slice ao m cap, .int .i64 (i : Int)] w fun e w' => e = .returned (.int .i64 (wbV C m i)) ∧ w' = w := by
  obtain ⟨r1, r2⟩ := wbV_range h i
  unfold wbV at r1 r2 ⊢
  by_cases h0 : m = 0
  · subst h0
    rw [if_pos rfl]
    go_enter Tryd.func11, Tryd.ntmps11
    go_wp2
    go_ret
    exact ⟨rfl, rfl⟩
  · rw [if_neg h0] at r1 r2 ⊢
    rcases h with h | ⟨b, off, rfl, _, h3⟩
    · omega
    have hl := Nat.mod_lt i (Nat.pos_of_ne_zero h0)
    have c0 := (h3 _ hl).1
    have hm0 : ¬ (m : Int) = 0 := by omega
    have hm1 : (1 : Int) ≤ m := by omega
    have e : (i : Int) % (m : Int) = ((i % m : Nat) : Int) := by omega
    obtain ⟨j, ej⟩ : ∃ j, i % m = j := ⟨_, rfl⟩
    rw [ej] at hl c0 e r1 r2 ⊢
    clear h3
    go_enter Tryd.func11, Tryd.ntmps11
    go_wp2
    go_ret
    exact ⟨rfl, rfl⟩

/-- append of nothing -/
theorem run_append_zero {P : Program} {w : World} (base : Nat) (t ty e : TypeId) (i : TypeInfo) (size : Nat) (ht : P.underlying t = some (.slice e)) (hi : P.info? e = some i)
    (v : Value) (n : Nat) (xs : List Value) (hown : w.ownsRow base e size v n xs) (ao : Option Addr) (c : Nat) : (Builtin.append_ #[t, t] ty #[v, .slice ao 0 c]).run P w = .ok v w := by
  cases ao
  · rcases hown.2 with ⟨rfl, rfl⟩ | ⟨g, cap, cur, rfl, _, _, hnc, _⟩
    · simp [Builtin.append_, run_underlying ht, sizeOf, typeInfo, hi, Builtin.lenOf, Builtin.firstCells]
    · simp [Builtin.append_, run_underlying ht, sizeOf, typeInfo, hi, Builtin.lenOf, Builtin.firstCells, hnc, storeCells]
  · rcases hown.2 with ⟨rfl, rfl⟩ | ⟨g, cap, cur, rfl, _, _, hnc, _⟩
    · simp [Builtin.append_, run_underlying ht, sizeOf, typeInfo, hi, Builtin.lenOf, Builtin.firstCells, loadCells, loadCellsFrom]
    · simp [Builtin.append_, run_underlying ht, sizeOf, typeInfo, hi, Builtin.lenOf, Builtin.firstCells, hnc, storeCells, loadCells, loadCellsFrom]

theorem step_append_zero {P : Program} {ops : Array Oper} {o : Oper} {a : Act} {w : World} {K : Act → World → Prop} {Q : Exit → Act → World → Prop} {E : Prop}
    (hgd : o.guard = none) (s x : Operand) (t : TypeId) (ho : o.op = .call { callee := .builtin .append, args := #[s, x], argTypes := #[t, t] })
    (base : Nat) (e : TypeId) (i : TypeInfo) (size : Nat) (ht : P.underlying t = some (.slice e)) (hi : P.info? e = some i)
    (v : Value) (n : Nat) (xs : List Value) (hs : a.eval s = v) (hown : w.ownsRow base e size v n xs) (ao : Option Addr) (c : Nat) (hx : a.eval x = .slice ao 0 c) (h : K (a.put o.dst v) w) :
    if Region.wanted o (yielded ops a.tmps) = true then Oper.wp P o a w K Q else E := by
  have hw : Region.wanted o (yielded ops a.tmps) = true := by simp [Region.wanted, hgd]
  rw [if_pos hw]
  have hr := run_append_zero (P := P) (w := w) base t o.type e i size ht hi v n xs hown ao c
  unfold Oper.wp execOp
  simp only [ho, resolve, invoke, builtin, Sem.run_bind, Sem.run_pure, Result.andThen_ok, List.map_toArray, List.map_cons, List.map_nil, hs, hx, hr]
  exact h

theorem step_append_any {P : Program} {ops : Array Oper} {o : Oper} {a : Act} {w : World} {K : Act → World → Prop} {Q : Exit → Act → World → Prop} {E : Prop}
    (hgd : o.guard = none) (s x : Operand) (t : TypeId) (ho : o.op = .call { callee := .builtin .append, args := #[s, x], argTypes := #[t, t] })
    (base : Nat) (e : TypeId) (i : TypeInfo) (z : Value) (size bytes : Nat) (ht : P.underlying t = some (.slice e)) (hi : P.info? e = some i) (hz : i.zero = some z)
    (hsize : i.size = size) (hby : i.bytes = bytes) (hzs : z.cells.size = size) (hsz : 0 < size)
    (v : Value) (n : Nat) (xs : List Value) (hs : a.eval s = v) (hown : w.ownsRow base e size v n xs)
    (ao : Option Addr) (m c : Nat) (news : List Value) (hx : a.eval x = .slice ao m c) (hl : news.length = m * size) (hsrc : m = 0 ∨ ∃ ad, ao = some ad ∧ ∀ j u, news[j]? = some u → w.cell? (ad.add j) = some u) (h1 : ∀ u ∈ news, u.oneCell' = true)
    (h63 : n + m ≤ maxLen) (hbytes : (n + m) * bytes ≤ 140737488355328) (hbase : base ≤ w.heap.size)
    (h : ∀ v' w', w'.ownsRow base e size v' (n + m) (xs ++ news) → w.grownBy w' v.ownBlock → K (a.put o.dst v') w') :
    if Region.wanted o (yielded ops a.tmps) = true then Oper.wp P o a w K Q else E := by
  rcases hsrc with rfl | ⟨ad, rfl, hnews⟩
  · have hn : news = [] := List.eq_nil_of_length_eq_zero (by rw [hl]; omega)
    subst hn
    refine step_append_zero hgd s x t ho base e i size ht hi v n xs hs hown ao c hx (h v w ?_ (World.grownBy.refl _ _))
    simpa using hown
  · exact step_append_own hgd s x t ho base e i z size bytes ht hi hz hsize hby hzs hsz v n xs hs hown ad m c news hx hl hnews h1 h63 hbytes hbase (fun v' w' a b _ => h v' w' a b)

theorem own_empty (w : World) (base e sz : Nat) (hb : base ≤ w.heap.size) : (w.alloc (.cells #[] e)).ownsRow base e sz (.slice (some ⟨w.heap.size, 0, none⟩) 0 0) 0 [] :=
  ⟨by simp, .inr ⟨w.heap.size, 0, #[], rfl, hb, heap_alloc_new w _, Nat.le_refl _, by unfold maxLen; omega, by simp, by simp⟩⟩

theorem trC_len (l : List (Int × Int × Int)) : (trC l).length = l.length * 3 := by
  induction l with
  | nil => rfl
  | cons a l ih => simp only [trC, List.flatMap_cons, List.length_append, List.length_cons, List.length_nil] at ih ⊢; omega
theorem trC_app (l m : List (Int × Int × Int)) : trC (l ++ m) = trC l ++ trC m := by simp [trC]
theorem trC_one (l : List (Int × Int × Int)) : ∀ u ∈ trC l, u.oneCell' = true := by
  intro u hu
  unfold trC at hu
  obtain ⟨x, _, hx⟩ := List.mem_flatMap.1 hu
  simp only [List.mem_cons, List.not_mem_nil, or_false] at hx
  rcases hx with rfl | rfl | rfl <;> rfl

/-- a list of events in memory, as append reads it -/
theorem evl_src {w : World} {lo hi : Nat} {u : Value} {E : List (Int × Int × Int)} (h : SlF w 56 3 lo hi u E.length (evs (trP E))) : ∃ ao c, u = .slice ao E.length c ∧ (E.length = 0 ∨ ∃ ad, ao = some ad ∧ ∀ j x, (trC E)[j]? = some x → w.cell? (ad.add j) = some x) := by
  obtain ⟨ao, c, rfl, h0 | ⟨g, m, f, rfl, _, _, h2, h3, h4⟩⟩ := h
  · exact ⟨ao, c, rfl, .inl h0⟩
  · refine ⟨_, c, rfl, .inr ⟨_, rfl, fun j x hj => ?_⟩⟩
    have hlt : j < E.length * 3 := by rw [← trC_len]; exact (List.getElem?_eq_some_iff.1 hj).1
    have ea : (⟨g, 0, none⟩ : Addr).add j = ⟨g, j, none⟩ := by simp [Addr.add]; exact fun h => h.symm
    have e1 : j = j / 3 * 3 + j % 3 := by omega
    rw [ea, h3.cell (by omega)]
    rw [e1, trC_get E (j / 3) (j % 3) (by omega) (by omega)] at hj
    rw [e1, h4 (j / 3) (by omega) (j % 3) (by omega)]
    exact hj

theorem src_on {w w' : World} {lo hi : Nat} {ao : Option Addr} {c : Nat} {E : List (Int × Int × Int)} (h : SlF w 56 3 lo hi (.slice ao E.length c) E.length (evs (trP E))) (hb : Below w.heap.size w w') : E.length = 0 ∨ ∃ ad, ao = some ad ∧ ∀ j x, (trC E)[j]? = some x → w'.cell? (ad.add j) = some x := by
  obtain ⟨ao', c', e, h0⟩ := evl_src (h.on hb)
  cases e
  exact h0

/-- a list of events and two more -/
def TwoL (w wc : World) (q : Value) (E : List (Int × Int × Int)) (a b : Int × Int × Int) : Prop := SlF wc 56 3 w.heap.size wc.heap.size q (E.length + 2) (evs (trP (E ++ [a, b])))
theorem TwoL.of_own {w wc : World} {base : Nat} {q : Value} {E : List (Int × Int × Int)} {a b : Int × Int × Int} (hb : w.heap.size ≤ base) (h : wc.ownsRow base 56 3 q (0 + E.length + 2) ([] ++ trC E ++ trC [a, b])) : TwoL w wc q E a b := by
  rw [List.nil_append, ← trC_app, Nat.zero_add] at h
  exact (ow_slf h (fun i hi j hj => trC_get (E ++ [a, b]) i j (by simpa using hi) hj)).wide hb (Nat.le_refl _)

theorem nw_cells6 (w : World) (a b c d e f : Value) (t : TypeId) : ∀ j u, [a, b, c, d, e, f][j]? = some u → (w.alloc (.cells #[a, b, c, d, e, f] t)).cell? ((⟨w.heap.size, 0, none⟩ : Addr).add j) = some u := by
  intro j u hu
  have hj : j < 6 := (List.getElem?_eq_some_iff.1 hu).1
  have ea : (⟨w.heap.size, 0, none⟩ : Addr).add j = ⟨w.heap.size, j, none⟩ := by simp [Addr.add]; exact fun h => h.symm
  rw [ea]
  match j, hj with
  | 0, _ => simpa using hu
  | 1, _ => simpa using hu
  | 2, _ => simpa using hu
  | 3, _ => simpa using hu
  | 4, _ => simpa using hu
  | 5, _ => simpa using hu

/-- a block of two events -/
def Six (w : World) (b : Nat) (x y : Int × Int × Int) : Prop := Blk w b 56 6 (fun i => (trC [x, y]).getD i (.int .i64 0))
theorem Six.lay (w : World) (x y : Int × Int × Int) : Six (w.alloc (.cells #[.int .i64 x.1, .int .i64 x.2.1, .int .i64 x.2.2, .int .i64 y.1, .int .i64 y.2.1, .int .i64 y.2.2] 56)) w.heap.size x y :=
  Blk.new w #[.int .i64 x.1, .int .i64 x.2.1, .int .i64 x.2.2, .int .i64 y.1, .int .i64 y.2.1, .int .i64 y.2.2] _ _ (fun i hi => by
    simp only [List.size_toArray, List.length_cons, List.length_nil] at hi
    match i, hi with
    | 0, _ => rfl
    | 1, _ => rfl
    | 2, _ => rfl
    | 3, _ => rfl
    | 4, _ => rfl
    | 5, _ => rfl)
theorem Six.src {w : World} {b : Nat} {x y : Int × Int × Int} (h : Six w b x y) : ∀ j u, (trC [x, y])[j]? = some u → w.cell? ((⟨b, 0, none⟩ : Addr).add j) = some u := by
  intro j u hu
  have hj : j < 6 := (List.getElem?_eq_some_iff.1 hu).1
  have ea : (⟨b, 0, none⟩ : Addr).add j = ⟨b, j, none⟩ := by simp [Addr.add]; exact fun h => h.symm
  rw [ea, Blk.cell h hj]
  simp [List.getD, hu]
theorem own_two {w : World} {v : Value} {b : Nat} (hb : v.ownBlock ≠ some b) {w' : World} (hg : w.grownBy w' v.ownBlock) {x y : Int × Int × Int} (hs : Six w b x y) : Six w' b x y := by
  exact Blk.grown hs hg hb

end Go.Proofs.YtlpopfhaephfaaaDoor
