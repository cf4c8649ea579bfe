import Derived.Test.YtlpopfhaephfaaaGreatDoorCU2
import Derived.Test.YtlpopfhaephfaaaGreatDoorRE1
import Derived.Test.YtlpopfhaephfaaaGreatDoorW3
import Derived.Deep.RegionWith
import Derived.Test.YtlpopfhaephfaaaGreatDoorCUE
import Derived.Test.YtlpopfhaephfaaaGreatDoorQW
import Derived.Test.YtlpopfhaephfaaaGreatDoorQS
import Derived.Test.YtlpopfhaephfaaaGreatDoorQB
import Derived.Lib.QuietBelow
import Derived.BigQuiet
import Derived.Deep.Cut
import Derived.Test.YtlpopfhaephfaaaGreatDoorCU3f
import Derived.Test.YtlpopfhaephfaaaGreatDoorCU1
import Derived.Test.YtlpopfhaephfaaaGreatDoorRows
import Derived.ChangeSlices
import Derived.ProofKit
import Derived.Lib.SmallJoins
import Derived.Deep.SlicePairs
import Derived.Lib.LaidTab
import Derived.LaidLaws
import Derived.Stop.LaidErr
import Derived.Test.YtlpopfhaephfaaaGreatDoorCards
import Derived.Test.YtlpopfhaephfaaaGreatDoorTie
import Derived.ChangeSame
import Derived.ChangeVars
import Derived.OpenVars
import Derived.ChangeMaps5
import Derived.JoinedOf
import Derived.RowKitTokens
import Derived.LaidHandle
import Derived.Stop.Joined
import Derived.SevenTiedAt
import Derived.WalkSmall
import Derived.HandedShaped
import Derived.Shelf.Vars
import Derived.Deep.DeepLaidRun
namespace Go.Proofs.YtlpopfhaephfaaaGreatDoor
open Go.RowKit

theorem Tryz.infoEx : (Tryz.prog.info? 47).map (fun i => (i.zero, i.size, i.bytes)) = some (some (.agg #[.int .i64 0, .int .i64 0, .int .i64 0]), 3, 24) := by kernel_rfl
theorem Tryz.infoIx : (Tryz.prog.info? 3).map (fun i => (i.zero, i.size, i.bytes)) = some (some (.int .i64 0), 1, 8) := by kernel_rfl

set_option maxRecDepth 100000 in
set_option maxHeartbeats 8000000 in
theorem events_none (B p m cap : Nat) (ao : Option Addr) (C : Nat → Int) (c : Cu) (g ns : Nat) (F T : Nat → Int) (hon : Bool) (w : World) (h : Cur w B p ao m cap C c) (hq : c.pos < 1000) (hrow : CRow w g 0 F T) (hl : lokZ (ns : Int) 0 F T = 0) :
    Calls Tryz.prog 12 #[.pointer (some ⟨p, 0, none⟩), .agg #[.int .i64 (ns : Int), .slice (gA g) 0 (gC g)], .bool hon] w fun e w' => ∃ u, e = .returned u ∧ SlF w' 47 3 w.heap.size w'.heap.size u (evL C m (ns : Int) 0 F T hon c).length (evs (trP (evL C m (ns : Int) 0 F T hon c))) ∧ Turned w w' (· = 39) p (p + 1) ∧ capB u = true := by
  obtain ⟨r1, r2, r3⟩ := lok_range hl
  obtain ⟨i0, hi, hz0, hz1, hz2⟩ := info_parts Tryz.infoIx
  obtain ⟨j0, gi, gz0, gz1, gz2⟩ := info_parts Tryz.infoEx
  have hpw := h.lt
  have hB := h.2.2.1
  have kc := fun o => specLayoutOk_any (ns : Int) g 0 F T _ (hrow.alloc o)
  rw [hl] at kc
  have q1 := pk_range C m c 30
  have q2 := q1.2 (by omega)
  have q3 := pk_pos C m c 30
  have eL : evL C m (ns : Int) 0 F T hon c = if 0 < pkV C m c 30 then [(5, pkV C m (pkC C m c 30) (ns : Int), 0)] else [] := by unfold evL; rw [if_pos rfl]
  rw [eL]
  obtain ⟨N, eN⟩ : ∃ N, pkV C m c 30 = N := ⟨_, rfl⟩
  rw [eN] at q1 q2 ⊢
  obtain ⟨q0, _⟩ := q1
  have s1 := pk_range C m (pkC C m c 30) (ns : Int)
  have s2 := s1.2 (by omega)
  obtain ⟨s0, _⟩ := s1
  have kp1 := fun W hW => pick_any B p m cap ao C c 30 W hW (by omega) (by omega)
  obtain ⟨c0, ec0⟩ : ∃ c0, pkC C m c 30 = c0 := ⟨_, rfl⟩
  rw [eN, ec0] at kp1
  rw [ec0] at q3 s0 s2 ⊢
  have kp2 := fun W hW => pick_any B p m cap ao C c0 (ns : Int) W hW (by omega) (by omega)
  obtain ⟨s, es⟩ : ∃ s, pkV C m c0 (ns : Int) = s := ⟨_, rfl⟩
  rw [es] at kp2 s0 s2 ⊢
  clear eN ec0 es eL
  by_cases hN : 0 < N
  · rw [if_pos hN]
    go_enter Tryz.func12, Tryz.ntmps12
    go_wp2_with fail
    refine (kc _).mono ?_
    rintro e w1 ⟨rfl, hb1⟩
    have B1 := below_on (show Below w.heap.size w _ from (by repeat (first | exact Below.refl _ _ | assumption | refine below_alloc ?_ _ | refine Below.setCell ?_ (by first | omega | (simp; done) | (simp; omega)) _ | refine Below.alloc ?_ (by first | omega | (simp; done) | (simp; omega)) _ | refine Below.drew ?_))) hb1
    have l1 := (Box2.lay w (.int .i64 (ns : Int)) (.slice (gA g) 0 (gC g)) 25).on hb1
    obtain ⟨y0, y1⟩ := l1.cells
    go_wp2_with (first
      | (at_make; refine wpList_make_full _ rfl _ _ 76 rfl w.heap.size 3 i0 _ 1 Tryz.underlying76 hi hz0 hz1 .i64 .i64 _ _ ns rfl rfl rfl rfl (by rw [hz2]; omega) (by unfold maxLen; omega) B1.size ?_; intro w2 hown hgrow))
    have hb2 : Below w1.heap.size w1 w2 := (Below.refl _ _).grown hgrow (Nat.le_refl _) (fun k hk => by simp at hk)
    have B2 := below_on B1 hb2
    have l2 := l1.on hb2
    clear hown hgrow y0 y1 l1
    go_wp2_with fail
    refine (kp1 _ (h.on B2)).mono ?_
    rintro e w3 ⟨rfl, c2, t2⟩
    have l3 := l2.turned t2 (.inl (by decide))
    have T3 : Turned w w3 (· = 39) p (p + 1) := (Turned.of_below B2).trans t2
    obtain ⟨y0, y1⟩ := l3.cells
    have lw := l3.lt
    clear t2 l2 B2 hb2 B1 hb1 kc kp1 h hrow
    go_wp2
    refine wp_loop_rounds 1 ?_
    rw [rounds_succ]
    go_wp2_with fail
    refine (kp2 _ c2).mono ?_
    rintro e w4 ⟨rfl, c4, t4⟩
    have T4 := T3.trans t4
    clear kp2 c4 t4 c2 T3 l3 y0 y1
    have ow0 : w4.ownsRow w.heap.size 47 3 (.slice none 0 0) 0 (trC []) := World.ownsRow_nil _ _ _ _
    have ownU := ow_on ow0 (show Below w4.heap.size w4 (w4.alloc (.cells #[.int .i64 5, .int .i64 s, .int .i64 0] 47)) from (by repeat (first | exact Below.refl _ _ | assumption | refine below_alloc ?_ _ | refine Below.setCell ?_ (by first | omega | (simp; done) | (simp; omega)) _ | refine Below.alloc ?_ (by first | omega | (simp; done) | (simp; omega)) _ | refine Below.drew ?_)))
    have hnw := nw_cells3 w4 (.int .i64 5) (.int .i64 s) (.int .i64 0) 47
    have h1c : ∀ x ∈ [Value.int .i64 5, .int .i64 s, .int .i64 0], x.oneCell' = true := fun x hx => by
      simp only [List.mem_cons, List.not_mem_nil, or_false] at hx
      rcases hx with rfl | rfl | rfl <;> rfl
    have hbq : w.heap.size ≤ (w4.alloc (.cells #[.int .i64 5, .int .i64 s, .int .i64 0] 47)).heap.size := by
      have := T4.size
      rw [World.size_alloc]; omega
    go_wp2_with (first
      | (at_builtin; refine wpList_append_own _ rfl _ _ 26 rfl w.heap.size 47 j0 _ 3 24 Tryz.underlying26 gi gz0 gz1 gz2 rfl (by decide) _ _ _ rfl ownU ⟨w4.heap.size, 0, none⟩ 1 1 [.int .i64 5, .int .i64 s, .int .i64 0] rfl rfl hnw h1c (by unfold maxLen; omega) (by omega) hbq ?_; intro v' w6 hown' hgrow hnil; obtain ⟨g6, cap6, rfl⟩ := ow_some hown' (by omega); have tg := ow_grown ownU hgrow))
    have sl := ow_slf (G := evs (trP [(5, s, 0)])) hown' (fun i hi j hj => trC_get [(5, s, 0)] i j hi hj)
    have fin : Turned w w6 (· = 39) p (p + 1) := T4.more ((below_alloc (Below.refl _ _) _).mono (T4.size) |>.trans (tg.below (Nat.le_refl _) hbq))
    have hcp := own_cap hown'
    go_ret
    exact ⟨_, rfl, sl, fin, hcp⟩
  · rw [if_neg hN]
    have hN0 : ¬ 0 < N := hN
    go_enter Tryz.func12, Tryz.ntmps12
    go_wp2_with fail
    refine (kc _).mono ?_
    rintro e w1 ⟨rfl, hb1⟩
    have B1 := below_on (show Below w.heap.size w _ from (by repeat (first | exact Below.refl _ _ | assumption | refine below_alloc ?_ _ | refine Below.setCell ?_ (by first | omega | (simp; done) | (simp; omega)) _ | refine Below.alloc ?_ (by first | omega | (simp; done) | (simp; omega)) _ | refine Below.drew ?_))) hb1
    have l1 := (Box2.lay w (.int .i64 (ns : Int)) (.slice (gA g) 0 (gC g)) 25).on hb1
    obtain ⟨y0, y1⟩ := l1.cells
    go_wp2_with (first
      | (at_make; refine wpList_make_full _ rfl _ _ 76 rfl w.heap.size 3 i0 _ 1 Tryz.underlying76 hi hz0 hz1 .i64 .i64 _ _ ns rfl rfl rfl rfl (by rw [hz2]; omega) (by unfold maxLen; omega) B1.size ?_; intro w2 hown hgrow))
    have hb2 : Below w1.heap.size w1 w2 := (Below.refl _ _).grown hgrow (Nat.le_refl _) (fun k hk => by simp at hk)
    have B2 := below_on B1 hb2
    have l2 := l1.on hb2
    clear hown hgrow y0 y1 l1
    go_wp2_with fail
    refine (kp1 _ (h.on B2)).mono ?_
    rintro e w3 ⟨rfl, c2, t2⟩
    have l3 := l2.turned t2 (.inl (by decide))
    have T3 : Turned w w3 (· = 39) p (p + 1) := (Turned.of_below B2).trans t2
    obtain ⟨y0, y1⟩ := l3.cells
    have lw := l3.lt
    clear t2 l2 B2 hb2 B1 hb1 kc kp1 h hrow
    go_wp2
    refine wp_loop_rounds 1 ?_
    rw [rounds_succ]
    go_wp2
    go_ret
    exact ⟨_, rfl, ⟨none, 0, rfl, .inl rfl⟩, T3, rfl⟩

end Go.Proofs.YtlpopfhaephfaaaGreatDoor

namespace Go.Proofs.YtlpopfhaephfaaaGreatDoor
open Go.RowKit

/-- what is asked of events at a way of drawing -/
def EvC (hon : Bool) : Prop := ∀ (B p m cap : Nat) (ao : Option Addr) (C : Nat → Int) (c : Cu) (g n ns : Nat) (F T : Nat → Int) (w : World), Cur w B p ao m cap C c → c.pos < 1000 → CRow w g n F T → lokZ (ns : Int) n F T = 0 → 0 < n →
    Calls Tryz.prog 12 #[.pointer (some ⟨p, 0, none⟩), .agg #[.int .i64 (ns : Int), .slice (gA g) n (gC g)], .bool hon] w fun e w' => ∃ u, e = .returned u ∧ SlF w' 47 3 w.heap.size w'.heap.size u (evL C m (ns : Int) n F T hon c).length (evs (trP (evL C m (ns : Int) n F T hon c))) ∧ Turned w w' (· = 39) p (p + 1) ∧ capB u = true

theorem events_any {hon : Bool} (hev : EvC hon) (B p m cap : Nat) (ao : Option Addr) (C : Nat → Int) (c : Cu) (g n ns : Nat) (F T : Nat → Int) (w : World) (h : Cur w B p ao m cap C c) (hq : c.pos < 1000) (hrow : CRow w g n F T) (hl : lokZ (ns : Int) n F T = 0) :
    Calls Tryz.prog 12 #[.pointer (some ⟨p, 0, none⟩), .agg #[.int .i64 (ns : Int), .slice (gA g) n (gC g)], .bool hon] w fun e w' => ∃ u, e = .returned u ∧ SlF w' 47 3 w.heap.size w'.heap.size u (evL C m (ns : Int) n F T hon c).length (evs (trP (evL C m (ns : Int) n F T hon c))) ∧ Turned w w' (· = 39) p (p + 1) ∧ capB u = true := by
  rcases Nat.eq_zero_or_pos n with rfl | hn
  · exact events_none B p m cap ao C c g ns F T hon w h hq hrow hl
  · exact hev B p m cap ao C c g n ns F T w h hq hrow hl hn

/-- what is drawn: the sections, the counters, the events -/
def drS (C : Nat → Int) (m : Nat) : Nat := lyS C m ⟨0, 0⟩
def drL (C : Nat → Int) (m : Nat) : List (Int × Int) := (lyZ C m ⟨0, 0⟩).2
def drE (C : Nat → Int) (m : Nat) (hon : Bool) : List (Int × Int × Int) := evL C m (drS C m : Int) (drL C m).length (fstF (drL C m)) (sndF (drL C m)) hon (lyZ C m ⟨0, 0⟩).1
theorem dr_ok (C : Nat → Int) (m : Nat) : lokZ (drS C m : Int) (drL C m).length (fstF (drL C m)) (sndF (drL C m)) = 0 := ly_ok C m ⟨0, 0⟩
theorem drS_range (C : Nat → Int) (m : Nat) : 1 ≤ drS C m ∧ drS C m ≤ 5 := (lyS_range C m ⟨0, 0⟩).2
theorem drL_len (C : Nat → Int) (m : Nat) : (drL C m).length ≤ 8 := (lyZ_facts C m ⟨0, 0⟩).2.1
theorem drE_facts (C : Nat → Int) (m : Nat) (hon : Bool) : (drE C m hon).length ≤ 29 ∧ ∀ x ∈ drE C m hon, evB (drS C m : Int) (drL C m).length x.1 x.2.1 x.2.2 = true :=
  evL_facts C m _ _ hon _ (by have := drS_range C m; omega)

/-- what lies in memory of it -/
def DrP (w w' : World) (C : Nat → Int) (m : Nat) (hon : Bool) (g : Nat) (u : Value) : Prop :=
  CRow w' g (drL C m).length (fstF (drL C m)) (sndF (drL C m)) ∧ SlF w' 47 3 w.heap.size w'.heap.size u (drE C m hon).length (evs (trP (drE C m hon))) ∧ Below w.heap.size w w' ∧ capB u = true

set_option maxRecDepth 100000 in
set_option maxHeartbeats 4000000 in
theorem drawn_of {hon : Bool} (hev : EvC hon) (m cap : Nat) (ao : Option Addr) (C : Nat → Int) (w : World) (hc : Cod w w.heap.size ao m C) (hm : m ≤ maxLen) :
    Calls Tryz.prog 4 #[.slice ao m cap, .bool hon] w fun e w' => ∃ g u, e = .returned (.tuple #[.agg #[.int .i64 (drS C m : Int), .slice (gA g) (drL C m).length (gC g)], u]) ∧ DrP w w' C m hon g u := by
  have zp := (lyZ_facts C m ⟨0, 0⟩).1
  simp only at zp
  have kl := fun W hW => layout_any w.heap.size (w.heap.size + 1) m cap ao C ⟨0, 0⟩ W hW (by simp)
  have ok := dr_ok C m
  have eE : drE C m hon = evL C m (drS C m : Int) (drL C m).length (fstF (drL C m)) (sndF (drL C m)) hon (lyZ C m ⟨0, 0⟩).1 := rfl
  rw [show lyS C m ⟨0, 0⟩ = drS C m from rfl, show (lyZ C m ⟨0, 0⟩).2 = drL C m from rfl] at kl
  have ke := fun g W hW hR => events_any hev w.heap.size (w.heap.size + 1) m cap ao C (lyZ C m ⟨0, 0⟩).1 g (drL C m).length (drS C m) (fstF (drL C m)) (sndF (drL C m)) W hW (by omega) hR ok
  rw [← eE] at ke
  unfold DrP
  obtain ⟨S, eS⟩ : ∃ S, drS C m = S := ⟨_, rfl⟩
  obtain ⟨L, eL⟩ : ∃ L, drL C m = L := ⟨_, rfl⟩
  obtain ⟨E, eE'⟩ : ∃ E, drE C m hon = E := ⟨_, rfl⟩
  obtain ⟨cz, ecz⟩ : ∃ cz, (lyZ C m ⟨0, 0⟩).1 = cz := ⟨_, rfl⟩
  rw [eS, eL, ecz] at kl ke
  rw [eE'] at ke
  rw [eS, eL, eE']
  clear ok eE eS eL eE' ecz zp
  have cu : Cur ((w.alloc (.cells #[.int .i64 0, .slice none 0 0] 25)).alloc (.cells #[.slice ao m cap, .int .i64 0, .int .u64 0] 39)) w.heap.size (w.heap.size + 1) ao m cap C ⟨0, 0⟩ := by
    refine ⟨?_, hc.below (by repeat (first | exact Below.refl _ _ | assumption | refine below_alloc ?_ _ | refine Below.setCell ?_ (by first | omega | (simp; done) | (simp; omega)) _ | refine Below.alloc ?_ (by first | omega | (simp; done) | (simp; omega)) _ | refine Below.drew ?_)), by omega, by simp, hm⟩
    have := Box3.lay (w.alloc (.cells #[.int .i64 0, .slice none 0 0] 25)) (.slice ao m cap) (.int .i64 0) (.int .u64 0) 39
    rwa [World.size_alloc] at this
  have rr := (Box2.lay w (.int .i64 0) (.slice none 0 0) 25).alloc (.cells #[.slice ao m cap, .int .i64 0, .int .u64 0] 39)
  go_enter Tryz.func4, Tryz.ntmps4
  go_wp2_with fail
  refine (kl _ cu).mono ?_
  rintro e w1 ⟨g, rfl, R1, C1, t1⟩
  have r1 := rr.turned t1 (.inl (by decide))
  have T1 : Below w.heap.size w w1 := (show Below w.heap.size w _ from (by repeat (first | exact Below.refl _ _ | assumption | refine below_alloc ?_ _ | refine Below.setCell ?_ (by first | omega | (simp; done) | (simp; omega)) _ | refine Below.alloc ?_ (by first | omega | (simp; done) | (simp; omega)) _ | refine Below.drew ?_))).trans (t1.below (show w.heap.size ≤ w.heap.size + 1 by omega) (by simp; omega))
  clear cu rr t1 kl
  obtain ⟨V, eV⟩ : ∃ V, w1.alloc (.cells #[.int .i64 (S : Int), .slice (gA g) L.length (gC g)] 25) = V := ⟨_, rfl⟩
  have BV : Below w.heap.size w V := by rw [← eV]; exact below_alloc T1 _
  have lV : Box2 V w1.heap.size 25 (.int .i64 (S : Int)) (.slice (gA g) L.length (gC g)) := by rw [← eV]; exact Box2.lay _ _ _ _
  have rV : Box2 V w.heap.size 25 (.int .i64 0) (.slice none 0 0) := by rw [← eV]; exact r1.alloc _
  have kV := ke g V.drew (by rw [← eV]; exact (C1.alloc _).drew) (by rw [← eV]; exact (R1.alloc _).drew)
  have BD : Below w.heap.size w V.drew := BV.drew
  have RV : CRow V g L.length (fstF L) (sndF L) := by rw [← eV]; exact R1.alloc _
  have sz := r1.lt
  obtain ⟨q, eq⟩ : ∃ q, w1.heap.size = q := ⟨_, rfl⟩
  rw [eq] at lV sz
  obtain ⟨a0, a1⟩ := lV.cells
  obtain ⟨b0, b1⟩ := rV.cells
  have la := lV.lt
  have lb := rV.lt
  have hne : ¬ w.heap.size = q := by omega
  have hne' : ¬ q = w.heap.size := by omega
  have lD : Box2 V.drew q 25 (.int .i64 (S : Int)) (.slice (gA g) L.length (gC g)) := lV
  have rD : Box2 V.drew w.heap.size 25 (.int .i64 0) (.slice none 0 0) := rV
  have RD : CRow V.drew g L.length (fstF L) (sndF L) := RV.drew
  clear ke C1 R1 r1 T1
  go_wp2_with fail
  go_region_with (go_at_call 12; refine (kV).mono ?_; rintro e w2 ⟨u, rfl, sl, t2, hcp⟩; have l2 := lD.turned t2 (.inl (by decide)); have r2 := rD.turned t2 (.inl (by decide)); obtain ⟨a0, a1⟩ := l2.cells; obtain ⟨b0, b1⟩ := r2.cells; obtain ⟨z0, z1⟩ := r2.frozen; have la := l2.lt; have lb := r2.lt)
  all_goals
    go_wp2
    have fin : Below w.heap.size w ((w2.setCell ⟨w.heap.size, 0, none⟩ (.int .i64 (S : Int))).setCell ⟨w.heap.size, 1, none⟩ (.slice (gA g) L.length (gC g))) := ((BD.trans (t2.below (by omega) (by have := BD.size; omega))).setCell (show w.heap.size ≤ (⟨w.heap.size, 0, none⟩ : Addr).block from Nat.le_refl _) _).setCell (show w.heap.size ≤ (⟨w.heap.size, 1, none⟩ : Addr).block from Nat.le_refl _) _
    have ts := Turned.of_set2 r2 (.int .i64 (S : Int)) (.slice (gA g) L.length (gC g))
    refine bodyPost_ret (v := .tuple #[.agg #[.int .i64 (S : Int), .slice (gA g) L.length (gC g)], u]) (by simp only [results, Tryz.results4]; simp [go_sem, b0, b1]) rfl ⟨g, u, rfl, ((RD.turned t2 (by decide)).turned ts (by decide)), ?_, fin, hcp⟩
    have := (sl.turned ts (.inl (by decide))).wide (show w.heap.size ≤ V.drew.heap.size from BD.size) (Nat.le_refl _)
    simpa [World.setCell] using this

end Go.Proofs.YtlpopfhaephfaaaGreatDoor

namespace Go.Proofs.YtlpopfhaephfaaaGreatDoor
open Go.RowKit

theorem evsB_of {S : Int} {n : Nat} {P : Nat → Nat → Int} : ∀ {m : Nat}, (∀ i, i < m → evB S n (P i 0) (P i 1) (P i 2) = true) → evsB S n P m = true
  | 0, _ => rfl
  | m + 1, h => by
    simp only [evsB, Bool.and_eq_true]
    exact ⟨evsB_of fun i hi => h i (by omega), h m (by omega)⟩

/-- A few good events are written, -/
theorem wr_lines {S : Int} {n : Nat} {F T : Nat → Int} {P : Nat → Nat → Int} {m : Nat} (ok : lokZ S n F T = 0) (hm : m ≤ 29) (he : evsB S n P m = true) : wrZ S n F T P m = linesB P m ∧ (linesB P m).length ≤ 870 := by
  obtain ⟨r1, r2, r3⟩ := lok_range ok
  have hl := linesB_length r3 r2 he
  exact ⟨wrZ_good (.inr ok) (by omega) he (by omega), by omega⟩

/-- and read back. -/
theorem rd_back {S : Int} {n : Nat} {F T : Nat → Int} {P : Nat → Nat → Int} {m : Nat} (ok : lokZ S n F T = 0) (hm : m ≤ 29) (he : evsB S n P m = true) : rdZ S n F T (linesB P m) = (0, 0, evTo P m) := by
  obtain ⟨r1, r2, r3⟩ := lok_range ok
  have hl := linesB_length r3 r2 he
  unfold rdZ
  rw [if_pos ok, if_pos (by omega), rd_wr r3 r2 he (by omega)]

theorem evT_evTo (P : Nat → Nat → Int) {m i j : Nat} (hi : i < m) (hj : j < 3) : evT (evTo P m) i j = P i j := by
  unfold evT evTo
  rw [List.getElem?_map, List.getElem?_range hi]
  match j, hj with
  | 0, _ => rfl
  | 1, _ => rfl
  | 2, _ => rfl

theorem came3_of_slf {w : World} {lo hi m cap : Nat} {ae : Option Addr} {P : Nat → Nat → Int} (h : SlF w 47 3 lo hi (.slice ae m cap) m (evs P)) : Came3 w ae m P := by
  obtain ⟨ao, c, e, h0⟩ := h
  simp only [Value.slice.injEq] at e
  obtain ⟨rfl, _, rfl⟩ := e
  rcases h0 with h0 | ⟨g, k, f, rfl, _, _, h2, h3, h4⟩
  · exact .inl h0
  · refine .inr ⟨g, 0, rfl, h3.lt, fun i hi j hj => ?_⟩
    rw [Nat.zero_add, h3.cell (by omega), h4 i hi j hj]
    rfl

theorem scp_back {w w' : World} {P : Nat → Nat → Int} {m : Nat} {e : Ending} (h : ScP w w' (0, 0, evTo P m) e) :
    ∃ a1 c1, e = .returned (.agg #[.int .i64 0, .int .i64 0, .slice a1 m c1]) ∧ SlF w' 47 3 w.heap.size w'.heap.size (.slice a1 m c1) m (evs P) ∧ Below w.heap.size w w' := by
  obtain ⟨a1, c1, he, hs, hb⟩ := scp_out h
  rw [evTo_length] at hs he
  exact ⟨a1, c1, he, hs.congr fun i hi j hj => by unfold evs; rw [evT_evTo P hi hj], hb⟩

end Go.Proofs.YtlpopfhaephfaaaGreatDoor

namespace Go.Proofs.YtlpopfhaephfaaaGreatDoor
open Go.RowKit

set_option maxRecDepth 100000 in
set_option maxHeartbeats 8000000 in
theorem text_small (hev : EvC false) (m1 c1 : Nat) (a1 : Option Addr) (C1 : Nat → Int) (w : World) (ha : LayR w) (h1 : Cod w w.heap.size a1 m1 C1) (hm1 : m1 ≤ 1048576) :
    Calls Tryz.prog 3 #[.slice a1 m1 c1] w fun e w' => e = .returned (.bool true) ∧ Below w.heap.size w w' := by
  have i1 : ¬ (1048576 : Int) < m1 := by omega
  have ok := dr_ok C1 m1
  obtain ⟨e1, e2⟩ := drE_facts C1 m1 false
  have kd := drawn_of hev m1 c1 a1 C1 w h1 (by unfold maxLen; omega)
  unfold DrP at kd
  obtain ⟨S, eS⟩ : ∃ S, drS C1 m1 = S := ⟨_, rfl⟩
  obtain ⟨n, en⟩ : ∃ n, (drL C1 m1).length = n := ⟨_, rfl⟩
  obtain ⟨F, eF⟩ : ∃ F, fstF (drL C1 m1) = F := ⟨_, rfl⟩
  obtain ⟨T, eT⟩ : ∃ T, sndF (drL C1 m1) = T := ⟨_, rfl⟩
  obtain ⟨E, eE⟩ : ∃ E, drE C1 m1 false = E := ⟨_, rfl⟩
  rw [eS, en, eF, eT] at ok
  rw [eS, en, eE] at e2
  rw [eE] at e1
  rw [eS, en, eF, eT, eE] at kd
  clear eS en eF eT eE
  have hP : ∀ j, j < E.length → evB (S : Int) n (trP E j 0) (trP E j 1) (trP E j 2) = true := fun j hj => by
    have e : E.getD j (0, 0, 0) = E[j] := by rw [List.getD_eq_getElem?_getD, List.getElem?_eq_getElem hj]; rfl
    unfold trP
    rw [e]
    exact e2 _ (List.getElem_mem hj)
  obtain ⟨m, em⟩ : ∃ m, E.length = m := ⟨_, rfl⟩
  obtain ⟨P, eP⟩ : ∃ P, trP E = P := ⟨_, rfl⟩
  rw [em, eP] at kd hP
  rw [em] at e1
  clear em eP e2
  have he := evsB_of hP
  obtain ⟨ww, wl⟩ := wr_lines ok e1 he
  have rb := rd_back ok e1 he
  obtain ⟨s, es⟩ : ∃ s, linesB P m = s := ⟨_, rfl⟩
  rw [es] at ww wl rb
  have WW : Hid _ := ww
  have RB : Hid _ := rb
  clear hP he es ww rb ok
  go_enter Tryz.func3, Tryz.ntmps3
  go_wp2_with fail
  refine kd.mono ?_
  rintro e w1 ⟨g, u, rfl, R1, E1, B1, hcp⟩
  obtain ⟨au, cu, rfl, ev0⟩ := E1
  have E1 : SlF w1 47 3 w.heap.size w1.heap.size (.slice au m cu) m (evs P) := ⟨au, cu, rfl, ev0⟩
  obtain ⟨V, eV⟩ : ∃ V, w1.alloc (.cells #[.int .i64 (S : Int), .slice (gA g) n (gC g)] 25) = V := ⟨_, rfl⟩
  have lay : Box2 V w1.heap.size 25 (.int .i64 (S : Int)) (.slice (gA g) n (gC g)) := by rw [← eV]; exact Box2.lay _ _ _ _
  have row : CRow V g n F T := by rw [← eV]; exact R1.alloc _
  have evt : SlF V 47 3 w.heap.size w1.heap.size (.slice au m cu) m (evs P) := by rw [← eV]; exact E1.alloc _
  have bel : Below w.heap.size w V := by rw [← eV]; exact below_alloc B1 _
  obtain ⟨lb, elb⟩ : ∃ lb, w1.heap.size = lb := ⟨_, rfl⟩
  rw [elb] at lay evt
  have EV : Hid _ := eV
  have ELB : Hid _ := elb
  have KW : Hid (∀ W, Below V.heap.size V W → Calls Tryz.prog 5 #[.agg #[.int .i64 (S : Int), .slice (gA g) n (gC g)], .slice au m cu] W fun e w' => e = .returned (.string ⟨s.toArray⟩) ∧ Below W.heap.size W w') := fun W hb => by
    have k := implWrite_any (S : Int) g n m cu au F T P W (by omega) (row.on hb) (came3_of_slf (evt.on hb)) (ha.on (below_on bel hb)).toLay
    rw [WW.out] at k
    exact k
  have KX : Hid (∀ W, Below V.heap.size V W → Calls Tryz.prog 7 #[.agg #[.int .i64 (S : Int), .slice (gA g) n (gC g)], .slice au m cu] W fun e w' => e = .returned (.string ⟨s.toArray⟩) ∧ Below W.heap.size W w') := fun W hb => by
    have k := specWrite_any (S : Int) g n m cu au F T P W (by omega) (row.on hb) (came3_of_slf (evt.on hb))
    rw [WW.out] at k
    exact k
  have KR : Hid (∀ W, Below V.heap.size V W → Calls Tryz.prog 6 #[.agg #[.int .i64 (S : Int), .slice (gA g) n (gC g)], .string ⟨s.toArray⟩] W fun e w' => ScP W w' (0, 0, evTo P m) e) := fun W hb => by
    have k := implRead_any (S : Int) g n F T s W (row.on hb) (ha.on (below_on bel hb)) (by omega)
    rw [RB.out] at k
    exact k
  obtain ⟨D, eD⟩ : ∃ D, ansZ (S : Int) n F T s = D := ⟨_, rfl⟩
  have KI : Hid (∀ W, Below V.heap.size V W → Calls Tryz.prog 9 #[.agg #[.int .i64 (S : Int), .slice (gA g) n (gC g)], .string ⟨s.toArray⟩] W fun e w' => e = .returned (.string ⟨D.toArray⟩) ∧ Below W.heap.size W w') := fun W hb => by
    have k := implAnswer_any (S : Int) g n F T s W (row.on hb) (ha.on (below_on bel hb)) (by omega)
    rw [eD] at k
    exact k
  have KS : Hid (∀ W, Below V.heap.size V W → Calls Tryz.prog 10 #[.agg #[.int .i64 (S : Int), .slice (gA g) n (gC g)], .string ⟨s.toArray⟩] W fun e w' => e = .returned (.string ⟨D.toArray⟩) ∧ Below W.heap.size W w') := fun W hb => by
    have k := specAnswer_any (S : Int) g n F T s W (row.on hb) (by omega)
    rw [eD] at k
    exact k
  have LAY : Hid (Box2 V lb 25 (.int .i64 (S : Int)) (.slice (gA g) n (gC g))) := lay
  have BEL : Hid (Below w.heap.size w V) := bel
  have EVT : Hid (SlF V 47 3 w.heap.size lb (.slice au m cu) m (evs P)) := evt
  obtain ⟨y0, y1⟩ := lay.cells
  have ly := lay.lt
  clear kd R1 E1 B1 h1 elb eV ev0 row evt bel lay hcp eD WW RB ha
  go_upto_region 4 with fail
  rw [EV.out, ELB.out]
  go_wp2_with fail
  refine (KW.out V (Below.refl _ _)).mono ?_
  rintro _ w2 ⟨rfl, b2⟩
  clear y0 y1 ly KW EV ELB
  obtain ⟨y0, y1⟩ := (Box2.on LAY.out b2).cells
  have ly := (Box2.on LAY.out b2).lt
  go_wp2_with fail
  refine (KR.out w2 b2).mono ?_
  rintro e w3 hsc
  obtain ⟨a3, c3, rfl, hs, b3⟩ := scp_back hsc
  have b3 := below_on b2 b3
  clear y0 y1 ly hsc b2 KR
  obtain ⟨V3, eV3⟩ : ∃ V, w3.alloc (.cells #[.int .i64 0, .int .i64 0, .slice a3 m c3] 31) = V := ⟨_, rfl⟩
  have bV3 : Below V.heap.size V V3 := by rw [← eV3]; exact below_alloc b3 _
  have hs3 : SlF V3 47 3 w2.heap.size w3.heap.size (.slice a3 m c3) m (evs P) := by rw [← eV3]; exact hs.alloc _
  obtain ⟨q3, eq3⟩ : ∃ q, w3.heap.size = q := ⟨_, rfl⟩
  have n0 : V3.cell? ⟨q3, 0, none⟩ = some (.int .i64 0) := by rw [← eV3, ← eq3]; simp
  have n2 : V3.cell? ⟨q3, 2, none⟩ = some (.slice a3 m c3) := by rw [← eV3, ← eq3]; simp
  obtain ⟨y0, y1⟩ := (Box2.on LAY.out bV3).cells
  have EV3 : Hid _ := eV3
  have EQ3 : Hid _ := eq3
  have kn0 := cell_regrown n0
  have kn2 := cell_regrown n2
  have ky0 := cell_regrown y0
  have ky1 := cell_regrown y1
  have evt3 := SlF.on EVT.out bV3
  have cx : ∀ dd os, _ := fun dd os => Calls.regrown_of (KX.out (Sort.grow (redrawn V3 dd) os) (below_on bV3 (below_regrown V3 dd os)))
  have ce : ∀ dd os, _ := fun dd os => Calls.regrown_of (wEvents_same _ _ _ _ m _ _ P (Sort.grow (redrawn V3 dd) os) (by omega) (hs3.on (below_regrown V3 dd os)) (evt3.on (below_regrown V3 dd os)))
  have ci : ∀ dd os, _ := fun dd os => Calls.regrown_of (KI.out (Sort.grow (redrawn V3 dd) os) (below_on bV3 (below_regrown V3 dd os)))
  have ck : ∀ dd os, _ := fun dd os => Calls.regrown_of (KS.out (Sort.grow (redrawn V3 dd) os) (below_on bV3 (below_regrown V3 dd os)))
  have FIN : Hid (Below w.heap.size w V3) := below_on BEL.out bV3
  clear eV3 eq3 n0 n2 y0 y1 bV3 b3 KX KI KS hs hs3 evt3
  go_upto_region 6 with fail
  rw [EV3.out, EQ3.out]
  refine wp_region_quiet_below (by kernel_rfl) (by kernel_rfl) ?_
  repeat (go_big_quiet_step (first | with_reducible exact cx _ _ | with_reducible exact ce _ _ | with_reducible exact ci _ _ | with_reducible exact ck _ _))
  refine wpQuiet_nil ?_
  intro _ hw'
  obtain ⟨⟨dq, osq⟩, hw''⟩ := hw'
  have hBq := below_regrown V3 dq osq
  subst hw''
  have FINq := below_on FIN.out hBq
  clear cx ce ci ck kn0 kn2 ky0 ky1 hBq
  generalize Sort.grow (redrawn V3 dq) osq = wq at *
  go_wp2
  go_ret
  exact ⟨rfl, FINq⟩

end Go.Proofs.YtlpopfhaephfaaaGreatDoor

namespace Go.Proofs.YtlpopfhaephfaaaGreatDoor
open Go.RowKit

theorem ev_false : EvC false := events_false
theorem drawn_false (m cap : Nat) (ao : Option Addr) (C : Nat → Int) (w : World) (hc : Cod w w.heap.size ao m C) (hm : m ≤ maxLen) :
    Calls Tryz.prog 4 #[.slice ao m cap, .bool false] w fun e w' => ∃ g u, e = .returned (.tuple #[.agg #[.int .i64 (drS C m : Int), .slice (gA g) (drL C m).length (gC g)], u]) ∧ DrP w w' C m false g u := drawn_of ev_false m cap ao C w hc hm

end Go.Proofs.YtlpopfhaephfaaaGreatDoor

namespace Go.Proofs.YtlpopfhaephfaaaGreatDoor
open Go.ChangeShapes Go.WideShapes Go.ChangeAt Go.RowKit Go.Joins

theorem Tryz.ownD : ownKnob Tryz.prog.godebug = none := by kernel_rfl
theorem Tryz.laidD : laidOutB Tryz.prog = true := by kernel_rfl
theorem Tryz.cellsU8 : Tryz.prog.cellsOf 5 = 1 := by kernel_rfl

theorem u8_wf {n : Int} (h : (Lit.int .u8 n).wf = true) : 0 ≤ n ∧ n < 256 := by
  unfold Lit.wf at h
  simp only [Bool.and_eq_true, decide_eq_true_eq] at h
  have h1 : IntKind.u8.min = 0 := by decide
  have h2 : IntKind.u8.max = 255 := by decide
  rw [h1, h2] at h
  omega

theorem cod_of_trod {H : Type} {enc : TypeId × Value → H} {W : World} {base : Nat} {spare : Nat → Bool} {held : Bool} {fuel : Nat} {c : Value} {x : DataW H × List MemPlace} (h : DataW.trod enc Tryz.prog W base spare held fuel 22 [c] = some x) :
    ∃ (ao : Option Addr) (n cap : Nat) (C : Nat → Int), c = .slice ao n cap ∧ n ≤ maxLen ∧ Cod W W.heap.size ao n C := by
  rcases open_ints Tryz.underlying22 Tryz.underlying5 Tryz.cellsU8 h with ⟨hc, _⟩ | ⟨a, len, cap, zs, hc, _, hl, hm, hz, _, hcell, hwf⟩
  · simp only [List.cons.injEq, and_true] at hc
    exact ⟨none, 0, 0, fun _ => 0, hc, Nat.zero_le _, .inl rfl⟩
  · simp only [List.cons.injEq, and_true] at hc
    refine ⟨some a, len, cap, fun i => zs.getD i 0, hc, Nat.le_trans hl hm, ?_⟩
    have hlz : len ≤ zs.length := by rw [hz]; split <;> omega
    rcases Nat.eq_zero_or_pos len with h0 | h0
    · exact .inl h0
    · right
      obtain ⟨b, off, spot⟩ := a
      have hs : spot = none := by simpa [Addr.add] using World.cell?_spot (hcell 0 (by omega))
      subst hs
      refine ⟨b, off, rfl, ?_, fun i hi => ⟨?_, ?_⟩⟩
      · have := World.block_lt_of_cell? W _ (hcell 0 (by omega))
        simpa [Addr.add] using this
      · have := hcell i (by omega)
        have e : (⟨b, off, none⟩ : Addr).add i = ⟨b, off + i, none⟩ := by simp [Addr.add]
        rw [e] at this
        exact this
      · have hi' : i < zs.length := by omega
        have e : zs.getD i 0 = zs[i] := by rw [List.getD_eq_getElem?_getD, List.getElem?_eq_getElem hi']; rfl
        show 0 ≤ zs.getD i 0 ∧ zs.getD i 0 < 256
        rw [e]
        exact u8_wf (hwf _ (List.getElem_mem hi'))

theorem cod_of {H : Type} {enc : TypeId × Value → H} {W : World} {base : Nat} {spare : Nat → Bool} {held : Bool} {ao : Option Addr} {n cap : Nat} {d : DataW H} {p : List MemPlace} (h : DataW.Trod enc Tryz.prog W base spare held 22 (.slice ao n cap) d p) :
    n ≤ maxLen ∧ ∃ C, Cod W W.heap.size ao n C := by
  obtain ⟨fuel, hf⟩ := h
  obtain ⟨ao', n', cap', C, e, hm, hc⟩ := cod_of_trod (c := .slice ao n cap) hf
  simp only [Value.slice.injEq] at e
  obtain ⟨rfl, rfl, rfl⟩ := e
  exact ⟨hm, C, hc⟩

end Go.Proofs.YtlpopfhaephfaaaGreatDoor

namespace Go.Proofs.YtlpopfhaephfaaaGreatDoor
open Go.RowKit

/-- An array of strings that reads as a list of texts holds them, cell for cell. -/
theorem cells_of_strs {H : Type} {enc : TypeId × Value → H} {P : Program} {w : World} {base : Nat} {sp : Nat → Bool} {held : Bool} {fuel : Nat} {t e : TypeId} {n : Nat} {cs : List Value} {ss : List (List UInt8)} {p : List MemPlace}
    (ht : P.underlying t = some (.array n e)) (he : P.underlying e = some .string) (hce : P.cellsOf e = 1) (hct : P.cellsOf t = n)
    (h : DataW.trod enc P w base sp held fuel t cs = some (.agg (ss.map fun s => .lit (.string s)), p)) : cs = ss.map fun s => Value.string ⟨s.toArray⟩ := by
  cases fuel with
  | zero => simp [DataW.trod] at h
  | succ fuel =>
    simp only [DataW.trod, ht, hce, hct, Nat.mul_one] at h
    split at h
    · obtain ⟨xs, hm, hx⟩ := Option.map_eq_some_iff.1 h
      have hxs : xs.map (·.1) = ss.map fun s => (DataW.lit (.string s) : DataW H) := by
        have := congrArg Prod.fst hx
        simpa using this
      have hxl : xs.length = n := by simpa using Lib.mapM_length hm
      have hzl : ss.length = n := by
        have := congrArg List.length hxs
        simp at this
        omega
      apply List.ext_getElem?
      intro i
      by_cases hi : i < n
      · obtain ⟨b, hb, hf⟩ := Lib.mapM_at hm i i (by simp [hi])
        obtain ⟨s, hc, rfl, _⟩ := DataW.trod_string he hf
        have h1 : cs[i]? = some (.string s) := by
          have := congrArg (·[0]?) hc
          simpa [List.getElem?_take, List.getElem?_drop] using this
        have h2 : (xs.map (·.1))[i]? = some (DataW.lit (.string s.data.toList) : DataW H) := by simp [hb]
        rw [hxs] at h2
        simp only [List.getElem?_map, Option.map_eq_some_iff, DataW.lit.injEq, Lit.string.injEq] at h2
        obtain ⟨z', hz', e1⟩ := h2
        rw [h1, List.getElem?_map, hz', e1]
        rfl
      · rw [List.getElem?_eq_none (by omega), List.getElem?_eq_none (by simp; omega)]
    · cases h

theorem Tryz.gWords : Tryz.prog.globalNamed "loop.example/treadle/impl.words" = some 0 := by kernel_rfl

/-- The words and the powers of ten, as they are laid. -/
theorem lay_of_laid {W : World} {r1 r2 : List (String × DataW Unit)} (h1 : laidMet Tryz.prog (("internal/strconv.uint64pow10", Rows.laid_internal_strconv_uint64pow10) :: r1) W) (h2 : laidMet Tryz.prog (("loop.example/treadle/impl.words", Rows.laid_loop_example_treadle_impl_words) :: r2) W) : Lay W := by
  refine ⟨?_, Lib.tabIs_of_head (k := .u64) (zs := Lib.pow10Tab) (rest := r1) Tryz.gPow (t := 147) (by kernel_rfl) Tryz.underlying147 Tryz.underlying37 (by kernel_rfl) (by kernel_rfl) h1⟩
  obtain ⟨ps, ⟨g', t', cs, fuel, p, q, hg', ht', hvar, hd, _, _⟩, _⟩ := h2
  obtain rfl := Option.some.inj (Tryz.gWords.symm.trans hg')
  obtain rfl : t' = 79 := Option.some.inj (ht'.symm.trans (by kernel_rfl))
  have hc := cells_of_strs (ss := [[], [112, 97, 115, 115], [103, 104, 111, 115, 116], [100, 101, 97, 100], [97, 108, 105, 118, 101], [114, 101, 115, 101, 116]]) Tryz.underlying79 Tryz.underlying9 (by kernel_rfl) (by kernel_rfl) hd
  intro i hi
  have := World.var?_cell Tryz.gWords hvar i
  rw [this, ← Array.getElem?_toList, hc]
  rcases (show i = 0 ∨ i = 1 ∨ i = 2 ∨ i = 3 ∨ i = 4 ∨ i = 5 by omega) with rfl | rfl | rfl | rfl | rfl | rfl <;> rfl

end Go.Proofs.YtlpopfhaephfaaaGreatDoor

namespace Go.Proofs.YtlpopfhaephfaaaGreatDoor
open Go.ChangeShapes Go.WideShapes Go.ChangeAt Go.RowKit Go.Joins

set_option maxRecDepth 100000 in
theorem fnText_great (m1 c1 : Nat) (a1 : Option Addr) (w : World) (h1 : 1048576 < m1) :
    Calls Tryz.prog 3 #[.slice a1 m1 c1] w fun e w' => e = .returned (.bool true) ∧ Below w.heap.size w w' := by
  have i1 : (1048576 : Int) < m1 := by omega
  go_enter Tryz.func3, Tryz.ntmps3
  go_wp2
  go_ret
  exact ⟨rfl, Below.refl _ _⟩

theorem fnText_all (m1 c1 : Nat) (a1 : Option Addr) (C1 : Nat → Int) (w : World) (ha : LayR w) (h1 : Cod w w.heap.size a1 m1 C1) :
    Calls Tryz.prog 3 #[.slice a1 m1 c1] w fun e w' => e = .returned (.bool true) ∧ Below w.heap.size w w' := by
  by_cases h : 1048576 < m1
  · exact fnText_great m1 c1 a1 w h
  · exact text_small ev_false m1 c1 a1 C1 w ha h1 (by omega)

section
variable {H : Type} {enc : TypeId × Value → H}
/-- A listed row whose contract is handed the world's shape besides. -/
theorem handed_and_shaped {a : Assume} {C : Checked} {os : Os} {f : FuncId} {fn : Func} {s : ChangeSpec} {conds : List PathCond} {apart fresh handsOn again : Bool} {X : World → Array Value → Prop}
    (hX : ∀ (w w' : World) (args : Array Value), w.heap = w'.heap → X w args → X w' args)
    (own : ownKnob C.prog.godebug = none) (started : os.Started) (noInit : C.prog.inits.idxOf? f = none) (hfn : C.prog.funcs[f]? = some fn)
    (witness : ∃ (w : World) (tape : Tape) (i : Input), w.os = os ∧ (w.forCall tape i).Shaped C.prog ∧ i.vars = [] ∧ Input.okWide C.prog (w.forCall tape i) .any w.heap.size f i ∧
      ((s.pre enc C.prog fn conds apart (w.forCall tape i).memory i.args ∧ X (w.forCall tape i).memory i.args) ∧ sizedMet enc C.prog fn (OpenSpec.ofChange s) apart (w.forCall tape i).memory i.args) ∧ a.holds C.prog (lone (Frame.enter C.prog f i.args .normal) [] (w.forCall tape i)))
    (contract : ∀ (W : World) (base : Nat) (args : Array Value) (ds gs : List (DataW H)) (before : List MemPlace),
      (∀ (j : Nat) t v, fn.params[j]? = some t → args[j]? = some v → Value.okWide C.prog W .any base t v) →
      DataW.Whole enc C.prog fn.params.toList s.vars apart W args.toList ds gs before → X W args → W.ShapedOpen C.prog →
      Calls C.prog f args W fun e W' => ∃ v, e = .returned v ∧ s.post enc C.prog fn apart fresh handsOn again W args v W') :
    ReturnsInHanded a C os f .any (fun w args => (s.pre enc C.prog fn conds apart w args ∧ X w args) ∧ sizedMet enc C.prog fn (OpenSpec.ofChange s) apart w args) (s.post enc C.prog fn apart fresh handsOn again) := by
  refine returnsInHanded_of_calls own started noInit witness ?_
  intro w tape i _ hsh _ hok hpre hholds
  obtain ⟨_, _, _, fn', hfn', _, _, _, _, hval⟩ := hok
  have e : fn' = fn := Option.some.inj (hfn'.symm.trans hfn)
  subst e
  obtain ⟨⟨⟨ds, gs, before, hw, hc⟩, hx⟩, hz⟩ := hpre
  have hw' := DataW.Whole.of_heap (w' := w.forCall tape i) (by rfl) hw
  refine (contract (w.forCall tape i) w.heap.size i.args ds gs before hval hw' (hX _ _ _ (by rfl) hx) hsh).mono fun e W' ⟨v, he, hp⟩ => ?_
  subst he
  exact ChangeSpec.post_blind hp
end

theorem Tryz.tSyn : (Tryz.prog.globals[3]?).map (·.type) = some 52 := by kernel_rfl
theorem Tryz.tRng : (Tryz.prog.globals[4]?).map (·.type) = some 52 := by kernel_rfl
theorem Tryz.esCells : Tryz.prog.cellsOf 184 = 1 := by kernel_rfl
theorem Tryz.stCells : Tryz.prog.cellsOf 9 = 1 := by kernel_rfl
theorem esStar : "*" ++ "errors.errorString" = "*errors.errorString" := by decide
theorem Tryz.esRow (u : TypeId) (h : Tryz.prog.typeName? 3 u = some "*errors.errorString") : u = 182 :=
  typeName_ptr_named (nm := "errors.errorString") (by rw [esStar]; kernel_rfl) (by kernel_rfl) (by decide) u (by rw [esStar]; exact h)

set_option maxRecDepth 100000 in
theorem layR_of_laid {W : World} (h : laidMet Tryz.prog Rows.fnTextRow.laid W) (hsh : W.ShapedOpen Tryz.prog) : LayR W := by
  have h2 := laidMet.tail (laidMet.tail h)
  have h4 := laidMet.tail (laidMet.tail h2)
  have h5 := laidMet.tail h4
  have h6 := laidMet.tail h5
  obtain ⟨a1, s1, v1, _⟩ := laid_sentinel h4 Tryz.gRng Tryz.tRng Tryz.underlying52 Tryz.esRow Tryz.underlying182 Tryz.underlying184 rfl rfl Tryz.underlying9 Tryz.esCells Tryz.stCells
  obtain ⟨a2, s2, v2, _⟩ := laid_sentinel h5 Tryz.gSyn Tryz.tSyn Tryz.underlying52 Tryz.esRow Tryz.underlying182 Tryz.underlying184 rfl rfl Tryz.underlying9 Tryz.esCells Tryz.stCells
  exact ⟨lay_of_laid h2 h6, ⟨_, _, v2⟩, ⟨_, _, v1⟩, cell_of_shapedOpen_int (t := 3) (zero := #[.int .i64 0]) hsh (of_decide_eq_true (by kernel_rfl)) (by kernel_rfl) rfl (by kernel_rfl) (by kernel_rfl) Tryz.underlying3⟩

/-- The cells of a datum of numbers or strings. -/
def litC (d : DataW Unit) : List Value :=
  match d with
  | .lit (.int k z) => [.int k z]
  | .lit (.string s) => [.string ⟨s.toArray⟩]
  | _ => []
def aggC (d : DataW Unit) : List Value :=
  match d with
  | .agg ds => ds.flatMap litC
  | _ => []
def agg2C (d : DataW Unit) : List Value :=
  match d with
  | .agg ds => ds.flatMap aggC
  | _ => []

/-- a world in which the listed variables lie as they are laid -/
def laidW (P : Program) (os : Os) : World :=
  let k := (World.holding P default ⟨#[], #[], []⟩).heap.size
  let w0 := World.holding P os ⟨#[.cells #[.string { data := #[118, 97, 108, 117, 101, 32, 111, 117, 116, 32, 111, 102, 32, 114, 97, 110, 103, 101] }] 184, .cells #[.string { data := #[105, 110, 118, 97, 108, 105, 100, 32, 115, 121, 110, 116, 97, 120] }] 184], #[], []⟩
  let put := fun (h : Array Obj) (g : Nat) (cs : Array Value) => h.modify g fun
      | .cells _ t frozen => .cells cs t frozen
      | o => o
  { w0 with heap := put (put (put (put (put (put (put (put w0.heap 5 (aggC Rows.laid_math_bits_deBruijn32tab).toArray) 6 (aggC Rows.laid_math_bits_deBruijn64tab).toArray) 1 (aggC Rows.laid_internal_strconv_uint64pow10).toArray) 8 (agg2C Rows.laid_unicode_utf8_acceptRanges).toArray) 4 #[.iface 182 (.pointer (some ⟨k, 0, none⟩))]) 3 #[.iface 182 (.pointer (some ⟨k + 1, 0, none⟩))]) 0 (aggC Rows.laid_loop_example_treadle_impl_words).toArray) 7 (aggC Rows.laid_unicode_utf8_first).toArray }
theorem laidW_met (os : Os) (args : Array Value) : laidMet Tryz.prog Rows.fnTextRow.laid ((laidW Tryz.prog os).forCall (fun _ _ => 0) ⟨#[], args, []⟩).memory :=
  laidMet_of_run3 8 (by kernel_rfl) (by kernel_rfl) (by kernel_rfl)

set_option maxRecDepth 100000 in
theorem fnText_lifted (os : Os) (started : os.Started) (H : Type) (enc : TypeId × Value → H) :
    ReturnsInHanded {} Tryz.checked os 3 .any (fun w args => (Rows.fnTextSpec.pre enc Tryz.prog Tryz.f3 [] false w args ∧ laidMet Tryz.prog Rows.fnTextRow.laid w) ∧ sizedMet enc Tryz.prog Tryz.f3 (OpenSpec.ofChange Rows.fnTextSpec) false w args)
      (Rows.fnTextSpec.post enc Tryz.prog Tryz.f3 false true false false) := by
  refine handed_and_shaped (C := Tryz.checked) (X := fun w _ => laidMet Tryz.prog Rows.fnTextRow.laid w) (fun _ _ _ hh h => h.of_heap hh) Tryz.ownD started (by kernel_rfl) Tryz.func3
    (ChangeSpec.witness_at (enc := enc) (C := Tryz.checked) (os := os) (X := fun w _ => laidMet Tryz.prog Rows.fnTextRow.laid w) false (laidW Tryz.prog os) #[.slice none 0 0] 8 rfl (by kernel_rfl) (by kernel_rfl) (by kernel_rfl) (by kernel_rfl) (by kernel_rfl) (laidW_met os _)) ?_
  intro W base args ds gs before hval0 hW hL hsh
  have hval : ∀ (j : Nat) t v, Tryz.f3.params[j]? = some t → args[j]? = some v → Value.okWide Tryz.prog W .any base t v := hval0
  have hW' := hW
  obtain ⟨p, q, hA0, hV0, rfl, hfz, hnd⟩ := hW
  have hA : DataW.TrodAll enc Tryz.prog W 0 (fun _ => true) true Tryz.f3.params.toList args.toList ds p := hA0
  have hV : DataW.TrodVars enc Tryz.prog W (fun _ => true) ["loop.example/treadle/impl.words"] gs q := hV0
  rw [Tryz.params3] at hA hval
  obtain ⟨v0, d0, rfl, rfl, h0⟩ := trodAll_one hA
  obtain ⟨gd, rfl⟩ : ∃ d, gs = [d] := by
    obtain ⟨g, t, cs, fuel, d, p, h, _⟩ := trodVars_one hV
    exact ⟨d, h⟩
  have hS : LayR W := layR_of_laid hL hsh
  have hl0 : ∀ x ∈ p, x.block < W.heap.size := fun x hx => by simpa using hW'.lt x (by simp [hx])
  obtain ⟨ao, m1, c1, rfl⟩ := okWide_slice Tryz.underlying22 (hval 0 22 v0 rfl rfl)
  obtain ⟨_, C1, hc1⟩ := cod_of h0
  clear hA0 hval0 hV0
  have key := fnText_all m1 c1 ao C1 W hS hc1
  refine key.mono fun e W' ⟨he, hb⟩ => ?_
  subst he
  refine ⟨_, rfl, _, _, _, [], p, q, hW', ?_, ?_, ?_, hb.frame _, fun h => by cases h⟩
  · exact trodAll_mk1 (shut_bool Tryz.underlying4 true)
  · exact trodAll_mk1 (Below.trod Tryz.laidD (by kernel_rfl) (of_decide_eq_true (by kernel_rfl)) h0 hb hl0)
  · exact Below.trodVars Tryz.laidD hb (by kernel_rfl) hV

theorem fnText_row : Rows.FnTextSaid :=
  OpenClaim.holds_of_wide 3 Tryz.f3 rfl rfl rfl rfl rfl rfl rfl ⟨rfl, rfl, rfl, rfl, rfl⟩ rfl rfl rfl rfl rfl (by kernel_rfl) Tryz.func3 (by kernel_rfl)
    (of_decide_eq_true (by kernel_rfl)) (by unfold Func.isWrapper; first | (rw [if_pos (by decide +kernel)]; kernel_rfl) | (rw [if_neg (by decide +kernel)]; exact ⟨rfl, rfl⟩))
    (fun os started H enc _ => fnText_lifted os started H enc)

theorem fnText_holds : Rows.FnTextCardSaid :=
  Claim7.holds_tied_plain_at .later [] [.data, .data, .data, .data, .sentinel, .sentinel, .data, .pinned] true (true, "b3786126ad11c511d2386179eb2981af75f28a802b556e968b96445473cba531") true
    fnText_row (fun _ h => by cases h) (by kernel_rfl) (fun _ h => by cases h) fnText_row_tie rfl ⟨rfl, rfl⟩ (by kernel_rfl) rfl
    (fun f fn hf hfn => by
      obtain rfl : f = 3 := Option.some.inj ((show Tryz.prog.funcNamed "loop.example/treadle/laws.FnText" = some 3 by kernel_rfl).symm.trans hf) |>.symm
      obtain rfl : fn = Tryz.f3 := (Option.some.inj (Tryz.func3.symm.trans hfn)).symm
      exact ⟨by kernel_rfl, fun j t ht => by
        rw [Tryz.params3] at ht
        match j with
        | 0 =>
          have h3 : t = 22 := by simpa using ht.symm
          subst h3
          exact (show Tryz.prog.wantsStandIn 22 = false by kernel_rfl)
        | j + 1 => simp at ht⟩)
    (by kernel_rfl)

#print axioms fnText_holds

end Go.Proofs.YtlpopfhaephfaaaGreatDoor
