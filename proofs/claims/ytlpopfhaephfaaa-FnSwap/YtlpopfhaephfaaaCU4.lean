import Derived.Test.YtlpopfhaephfaaaCU2
import Derived.Test.YtlpopfhaephfaaaRE1
import Derived.Test.YtlpopfhaephfaaaW3
import Derived.Deep.RegionWith
namespace Go.Proofs.Ytlpopfhaephfaaa
open Go.RowKit

theorem Try.infoEx : (Try.prog.info? 45).map (fun i => (i.zero, i.size, i.bytes)) = some (some (.agg #[.int .i64 0, .int .i64 0, .int .i64 0]), 3, 24) := by kernel_rfl
theorem Try.infoIx : (Try.prog.info? 3).map (fun i => (i.zero, i.size, i.bytes)) = some (some (.int .i64 0), 1, 8) := by kernel_rfl

set_option maxRecDepth 100000 in
set_option maxHeartbeats 8000000 in
theorem events_none (B p m cap : Nat) (ao : Option Addr) (C : Nat → Int) (c : Cu) (g ns : Nat) (F T : Nat → Int) (hon : Bool) (w : World) (h : Cur w B p ao m cap C c) (hq : c.pos < 1000) (hrow : CRow w g 0 F T) (hl : lokZ (ns : Int) 0 F T = 0) :
    Calls Try.prog 49 #[.pointer (some ⟨p, 0, none⟩), .agg #[.int .i64 (ns : Int), .slice (gA g) 0 (gC g)], .bool hon] w fun e w' => ∃ u, e = .returned u ∧ SlF w' 45 3 w.heap.size w'.heap.size u (evL C m (ns : Int) 0 F T hon c).length (evs (trP (evL C m (ns : Int) 0 F T hon c))) ∧ Turned w w' (· = 83) p (p + 1) ∧ capB u = true := by
  obtain ⟨r1, r2, r3⟩ := lok_range hl
  obtain ⟨i0, hi, hz0, hz1, hz2⟩ := info_parts Try.infoIx
  obtain ⟨j0, gi, gz0, gz1, gz2⟩ := info_parts Try.infoEx
  have hpw := h.lt
  have hB := h.2.2.1
  have kc := fun o => specLayoutOk_any (ns : Int) g 0 F T _ (hrow.alloc o)
  rw [hl] at kc
  have q1 := pk_range C m c 30
  have q2 := q1.2 (by omega)
  have q3 := pk_pos C m c 30
  have eL : evL C m (ns : Int) 0 F T hon c = if 0 < pkV C m c 30 then [(5, pkV C m (pkC C m c 30) (ns : Int), 0)] else [] := by unfold evL; rw [if_pos rfl]
  rw [eL]
  obtain ⟨N, eN⟩ : ∃ N, pkV C m c 30 = N := ⟨_, rfl⟩
  rw [eN] at q1 q2 ⊢
  obtain ⟨q0, _⟩ := q1
  have s1 := pk_range C m (pkC C m c 30) (ns : Int)
  have s2 := s1.2 (by omega)
  obtain ⟨s0, _⟩ := s1
  have kp1 := fun W hW => pick_any B p m cap ao C c 30 W hW (by omega) (by omega)
  obtain ⟨c0, ec0⟩ : ∃ c0, pkC C m c 30 = c0 := ⟨_, rfl⟩
  rw [eN, ec0] at kp1
  rw [ec0] at q3 s0 s2 ⊢
  have kp2 := fun W hW => pick_any B p m cap ao C c0 (ns : Int) W hW (by omega) (by omega)
  obtain ⟨s, es⟩ : ∃ s, pkV C m c0 (ns : Int) = s := ⟨_, rfl⟩
  rw [es] at kp2 s0 s2 ⊢
  clear eN ec0 es eL
  by_cases hN : 0 < N
  · rw [if_pos hN]
    go_enter Try.func49, Try.ntmps49
    go_wp2_with fail
    refine (kc _).mono ?_
    rintro e w1 ⟨rfl, hb1⟩
    have B1 := below_on (show Below w.heap.size w _ from (by repeat (first | exact Below.refl _ _ | assumption | refine below_alloc ?_ _ | refine Below.setCell ?_ (by first | omega | (simp; done) | (simp; omega)) _ | refine Below.alloc ?_ (by first | omega | (simp; done) | (simp; omega)) _ | refine Below.drew ?_))) hb1
    have l1 := (Box2.lay w (.int .i64 (ns : Int)) (.slice (gA g) 0 (gC g)) 25).on hb1
    obtain ⟨y0, y1⟩ := l1.cells
    go_wp2_with (first
      | (at_make; refine wpList_make_full _ rfl _ _ 48 rfl w.heap.size 3 i0 _ 1 Try.underlying48 hi hz0 hz1 .i64 .i64 _ _ ns rfl rfl rfl rfl (by rw [hz2]; omega) (by unfold maxLen; omega) B1.size ?_; intro w2 hown hgrow))
    have hb2 : Below w1.heap.size w1 w2 := (Below.refl _ _).grown hgrow (Nat.le_refl _) (fun k hk => by simp at hk)
    have B2 := below_on B1 hb2
    have l2 := l1.on hb2
    clear hown hgrow y0 y1 l1
    go_wp2_with fail
    refine (kp1 _ (h.on B2)).mono ?_
    rintro e w3 ⟨rfl, c2, t2⟩
    have l3 := l2.turned t2 (.inl (by decide))
    have T3 : Turned w w3 (· = 83) p (p + 1) := (Turned.of_below B2).trans t2
    obtain ⟨y0, y1⟩ := l3.cells
    have lw := l3.lt
    clear t2 l2 B2 hb2 B1 hb1 kc kp1 h hrow
    go_wp2
    refine wp_loop_rounds 1 ?_
    rw [rounds_succ]
    go_wp2_with fail
    refine (kp2 _ c2).mono ?_
    rintro e w4 ⟨rfl, c4, t4⟩
    have T4 := T3.trans t4
    clear kp2 c4 t4 c2 T3 l3 y0 y1
    have ow0 : w4.ownsRow w.heap.size 45 3 (.slice none 0 0) 0 (trC []) := World.ownsRow_nil _ _ _ _
    have ownU := ow_on ow0 (show Below w4.heap.size w4 (w4.alloc (.cells #[.int .i64 5, .int .i64 s, .int .i64 0] 45)) from (by repeat (first | exact Below.refl _ _ | assumption | refine below_alloc ?_ _ | refine Below.setCell ?_ (by first | omega | (simp; done) | (simp; omega)) _ | refine Below.alloc ?_ (by first | omega | (simp; done) | (simp; omega)) _ | refine Below.drew ?_)))
    have hnw := nw_cells3 w4 (.int .i64 5) (.int .i64 s) (.int .i64 0) 45
    have h1c : ∀ x ∈ [Value.int .i64 5, .int .i64 s, .int .i64 0], x.oneCell' = true := fun x hx => by
      simp only [List.mem_cons, List.not_mem_nil, or_false] at hx
      rcases hx with rfl | rfl | rfl <;> rfl
    have hbq : w.heap.size ≤ (w4.alloc (.cells #[.int .i64 5, .int .i64 s, .int .i64 0] 45)).heap.size := by
      have := T4.size
      rw [World.size_alloc]; omega
    go_wp2_with (first
      | (at_builtin; refine wpList_append_own _ rfl _ _ 26 rfl w.heap.size 45 j0 _ 3 24 Try.underlying26 gi gz0 gz1 gz2 rfl (by decide) _ _ _ rfl ownU ⟨w4.heap.size, 0, none⟩ 1 1 [.int .i64 5, .int .i64 s, .int .i64 0] rfl rfl hnw h1c (by unfold maxLen; omega) (by omega) hbq ?_; intro v' w6 hown' hgrow hnil; obtain ⟨g6, cap6, rfl⟩ := ow_some hown' (by omega); have tg := ow_grown ownU hgrow))
    have sl := ow_slf (G := evs (trP [(5, s, 0)])) hown' (fun i hi j hj => trC_get [(5, s, 0)] i j hi hj)
    have fin : Turned w w6 (· = 83) p (p + 1) := T4.more ((below_alloc (Below.refl _ _) _).mono (T4.size) |>.trans (tg.below (Nat.le_refl _) hbq))
    have hcp := own_cap hown'
    go_ret
    exact ⟨_, rfl, sl, fin, hcp⟩
  · rw [if_neg hN]
    have hN0 : ¬ 0 < N := hN
    go_enter Try.func49, Try.ntmps49
    go_wp2_with fail
    refine (kc _).mono ?_
    rintro e w1 ⟨rfl, hb1⟩
    have B1 := below_on (show Below w.heap.size w _ from (by repeat (first | exact Below.refl _ _ | assumption | refine below_alloc ?_ _ | refine Below.setCell ?_ (by first | omega | (simp; done) | (simp; omega)) _ | refine Below.alloc ?_ (by first | omega | (simp; done) | (simp; omega)) _ | refine Below.drew ?_))) hb1
    have l1 := (Box2.lay w (.int .i64 (ns : Int)) (.slice (gA g) 0 (gC g)) 25).on hb1
    obtain ⟨y0, y1⟩ := l1.cells
    go_wp2_with (first
      | (at_make; refine wpList_make_full _ rfl _ _ 48 rfl w.heap.size 3 i0 _ 1 Try.underlying48 hi hz0 hz1 .i64 .i64 _ _ ns rfl rfl rfl rfl (by rw [hz2]; omega) (by unfold maxLen; omega) B1.size ?_; intro w2 hown hgrow))
    have hb2 : Below w1.heap.size w1 w2 := (Below.refl _ _).grown hgrow (Nat.le_refl _) (fun k hk => by simp at hk)
    have B2 := below_on B1 hb2
    have l2 := l1.on hb2
    clear hown hgrow y0 y1 l1
    go_wp2_with fail
    refine (kp1 _ (h.on B2)).mono ?_
    rintro e w3 ⟨rfl, c2, t2⟩
    have l3 := l2.turned t2 (.inl (by decide))
    have T3 : Turned w w3 (· = 83) p (p + 1) := (Turned.of_below B2).trans t2
    obtain ⟨y0, y1⟩ := l3.cells
    have lw := l3.lt
    clear t2 l2 B2 hb2 B1 hb1 kc kp1 h hrow
    go_wp2
    refine wp_loop_rounds 1 ?_
    rw [rounds_succ]
    go_wp2
    go_ret
    exact ⟨_, rfl, ⟨none, 0, rfl, .inl rfl⟩, T3, rfl⟩

end Go.Proofs.Ytlpopfhaephfaaa
