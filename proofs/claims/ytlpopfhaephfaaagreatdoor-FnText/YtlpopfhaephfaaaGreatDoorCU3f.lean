import Derived.Test.YtlpopfhaephfaaaGreatDoorCUE
namespace Go.Proofs.YtlpopfhaephfaaaGreatDoor
open Go.RowKit

set_option maxRecDepth 100000 in
set_option maxHeartbeats 8000000 in
theorem events_false (B p m cap : Nat) (ao : Option Addr) (C : Nat → Int) (c : Cu) (g n ns : Nat) (F T : Nat → Int) (w : World) (h : Cur w B p ao m cap C c) (hq : c.pos < 1000) (hrow : CRow w g n F T) (hl : lokZ (ns : Int) n F T = 0) (hn : 0 < n) :
    Calls Tryz.prog 12 #[.pointer (some ⟨p, 0, none⟩), .agg #[.int .i64 (ns : Int), .slice (gA g) n (gC g)], .bool false] w fun e w' => ∃ u, e = .returned u ∧ SlF w' 47 3 w.heap.size w'.heap.size u (evL C m (ns : Int) n F T false c).length (evs (trP (evL C m (ns : Int) n F T false c))) ∧ Turned w w' (· = 39) p (p + 1) ∧ capB u = true := by
  obtain ⟨r1, r2, r3⟩ := lok_range hl
  obtain ⟨i0, hi, hz0, hz1, hz2⟩ := info_parts Tryz.infoIw
  obtain ⟨j0, gi, gz0, gz1, gz2⟩ := info_parts Tryz.infoEw
  have hpw := h.lt
  have hB := h.2.2.1
  have kc := fun o => specLayoutOk_any (ns : Int) g n F T _ (hrow.alloc o)
  rw [hl] at kc
  have q1 := pk_range C m c 30
  have q2 := q1.2 (by omega)
  have q3 := pk_pos C m c 30
  obtain ⟨N, eN⟩ : ∃ N : Nat, pkV C m c 30 = N := ⟨_, (Int.toNat_of_nonneg q1.1).symm⟩
  obtain ⟨L, eL⟩ : ∃ L, evL C m (ns : Int) n F T false c = L := ⟨_, rfl⟩
  have EL : Hid (L = (esRun C m (ns : Int) n F T false (pkC C m c 30) N).out) := by
    show L = _
    rw [← eL]; unfold evL; rw [if_neg (by omega), eN]; rfl
  rw [eL]
  clear eL
  go_enter Tryz.func12, Tryz.ntmps12
  go_wp2_with fail
  refine (kc _).mono ?_
  rintro e w1 ⟨rfl, hb1⟩
  have B1 := below_on (show Below w.heap.size w _ from (by repeat (first | exact Below.refl _ _ | assumption | refine below_alloc ?_ _ | refine Below.setCell ?_ (by first | omega | (simp; done) | (simp; omega)) _ | refine Below.alloc ?_ (by first | omega | (simp; done) | (simp; omega)) _ | refine Below.drew ?_))) hb1
  have l1 := (Box2.lay w (.int .i64 (ns : Int)) (.slice (gA g) n (gC g)) 25).on hb1
  obtain ⟨y0, y1⟩ := l1.cells
  go_wp2_with (first
    | (at_make; refine wpList_make_full _ rfl _ _ 76 rfl w.heap.size 3 i0 _ 1 Tryz.underlying76 hi hz0 hz1 .i64 .i64 _ _ ns rfl rfl rfl rfl (by rw [hz2]; omega) (by unfold maxLen; omega) B1.size ?_; intro w2 hown hgrow))
  have hT : Blk w2 w1.heap.size 3 ns (fun _ => .int .i64 0) := by
    have := Blk.made (g := fun _ => .int .i64 0) hown rfl rfl (fun i hi => by match i, hi with | 0, _ => rfl)
    simpa using this
  have hb2 : Below w1.heap.size w1 w2 := (Below.refl _ _).grown hgrow (Nat.le_refl _) (fun k hk => by simp at hk)
  have I0 : EvI w w2 B p ao m cap C w.heap.size w1.heap.size ns g n F T (.slice none 0 0) ⟨c, [], fun _ => 0, -1⟩ :=
    ⟨(h.on B1).on hb2, l1.on hb2, (hrow.on B1).on hb2, World.ownsRow_nil _ _ _ _, hT, Turned.of_below (below_on B1 hb2), Nat.le_refl _, l1.lt, hpw⟩
  clear hown hgrow hT hb2 kc hb1 y0 y1 B1 l1
  go_wp2_with fail
  refine (pick_any B p m cap ao C c 30 _ I0.cur (by omega) (by omega)).mono ?_
  rintro e w3 ⟨rfl, c2, t2⟩
  have J := I0.pick c2 t2
  obtain ⟨c0, ec0⟩ : ∃ c0, pkC C m c 30 = c0 := ⟨_, rfl⟩
  rw [ec0] at J q3 EL
  rw [eN] at q2 ⊢
  have hN : N < 30 := by omega
  obtain ⟨tb, etb⟩ : ∃ tb, w1.heap.size = tb := ⟨_, rfl⟩
  rw [etb] at J
  have hn0 : ¬ (n : Int) = 0 := by omega
  have OK := fun k => esRun_ok C m F T false c0 (S := (ns : Int)) (n := n) (by omega) hn k
  have HOK : Hid (∀ k, EsOk (ns : Int) n c0.pos k (esRun C m (ns : Int) n F T false c0 k)) := OK
  clear I0 c2 t2 eN q1 q2 OK ec0 h hrow
  go_wp2
  go_loopw [7, 9, 10] (fun u d i wr => ∃ k : Nat, k ≤ N ∧ i = .int .i64 ((N : Int) - k) ∧ d = .int .i64 (esRun C m (ns : Int) n F T false c0 k).dead ∧ EvI w wr B p ao m cap C w.heap.size tb ns g n F T u (esRun C m (ns : Int) n F T false c0 k)) (fun _ _ i _ => (intOf i).toNat)
  case atStart => exact ⟨0, Nat.zero_le _, by simp, rfl, J⟩
  case round =>
    clear J
    rename Value => u
    obtain ⟨k, hk, rfl, rfl, I⟩ := hrel
    by_cases hlt : k < N
    · have hi1 : (k : Int) < (N : Int) := by omega
      have ok := HOK.out k
      have eE : esRun C m (ns : Int) n F T false c0 (k + 1) = esAct C m (ns : Int) F T false (esRun C m (ns : Int) n F T false c0 k) (pkV C m (esRun C m (ns : Int) n F T false c0 k).cu n) (pkV C m (pkC C m (esRun C m (ns : Int) n F T false c0 k).cu n) 16) (pkC C m (pkC C m (esRun C m (ns : Int) n F T false c0 k).cu n) 16) := rfl
      obtain ⟨e, ee⟩ : ∃ e, esRun C m (ns : Int) n F T false c0 k = e := ⟨_, rfl⟩
      rw [ee] at I ok eE ⊢
      clear ee
      obtain ⟨o1, o2, o3, o4, o5⟩ := ok
      obtain ⟨b0, b1⟩ := I.lay.cells
      have lb := I.lay.lt
      have a1 := pk_range C m e.cu n
      have a2 := a1.2 (by omega)
      have a3 := pk_pos C m e.cu n
      go_wp2_with fail
      refine (pick_any B p m cap ao C e.cu n _ I.cur (by omega) (by omega)).mono ?_
      rintro _ w4 ⟨rfl, c2, t2⟩
      have J := I.pick c2 t2
      obtain ⟨K, eK⟩ : ∃ K : Nat, pkV C m e.cu n = K := ⟨_, (Int.toNat_of_nonneg a1.1).symm⟩
      obtain ⟨d0, ed0⟩ : ∃ d0, pkC C m e.cu n = d0 := ⟨_, rfl⟩
      rw [eK] at eE a2 ⊢
      rw [ed0] at eE J a3
      have hK : K < n := by omega
      clear I c2 t2 b0 b1 lb eK ed0 a1
      obtain ⟨b0, b1⟩ := J.lay.cells
      have lb := J.lay.lt
      obtain ⟨gb, eg, lg, x0, x1, _⟩ := J.row.at hK
      rw [eg] at b1
      clear eg
      have JX := J.alloc (.cells #[.int .i64 (F K), .int .i64 (T K)] 75)
      have HX : Hid _ := Box2.lay w4 (.int .i64 (F K)) (.int .i64 (T K)) 75
      clear J
      go_wp2_with fail
      refine (pick_any B p m cap ao C d0 16 _ JX.cur (by omega) (by omega)).mono ?_
      rintro _ w5 ⟨rfl, c2, t2⟩
      have J := JX.pick c2 t2
      have X := (show Box2 _ w4.heap.size _ _ _ from HX.out).turned t2 (.inl (by decide))
      have f1 := pk_range C m d0 16
      have f2 := f1.2 (by omega)
      have f3 := pk_pos C m d0 16
      obtain ⟨t, et⟩ : ∃ t, pkV C m d0 16 = t := ⟨_, rfl⟩
      obtain ⟨d1, ed1⟩ : ∃ d1, pkC C m d0 16 = d1 := ⟨_, rfl⟩
      rw [et, ed1] at eE
      rw [ed1] at J f3
      rw [et] at f1 f2 ⊢
      obtain ⟨f0, _⟩ := f1
      simp only at J
      have e1 : d1.pos < 900000 := by omega
      obtain ⟨xb, exb⟩ : ∃ xb, w4.heap.size = xb := ⟨_, rfl⟩
      rw [exb] at X
      clear JX HX c2 t2 b0 b1 lb lg x0 x1 et ed1 a3 f3 o1
      have ol : e.out.length ≤ 30 := by omega
      by_cases h0 : t = 0
      · as_aux_lemma =>
          subst h0
          rw [esAct_0] at eE
          go_wp2_with fail
          refine (pick_any B p m cap ao C d1 2 _ J.cur (by omega) (by omega)).mono ?_
          rintro _ w7 ⟨rfl, c2, t2⟩
          have K7 := J.pick c2 t2
          have g1 := pk_range C m d1 2
          have g2 := g1.2 (by omega)
          obtain ⟨y, ey⟩ : ∃ y, pkV C m d1 2 = y := ⟨_, rfl⟩
          rw [ey] at eE g1 g2 ⊢
          obtain ⟨g0, _⟩ := g1
          clear J X c2 t2 ey
          have own : w7.ownsRow (tb + 1) 47 3 u7 e.out.length (trC e.out) := K7.own
          have ownU := ow_on own (show Below w7.heap.size w7 (w7.alloc (.cells #[.int .i64 2, .int .i64 (K : Int), .int .i64 (1 - 2 * y)] 47)) from (by repeat (first | exact Below.refl _ _ | assumption | refine below_alloc ?_ _ | refine Below.setCell ?_ (by first | omega | (simp; done) | (simp; omega)) _ | refine Below.alloc ?_ (by first | omega | (simp; done) | (simp; omega)) _ | refine Below.drew ?_)))
          have hnw := nw_cells3 w7 (.int .i64 2) (.int .i64 (K : Int)) (.int .i64 (1 - 2 * y)) 47
          have h1c : ∀ x ∈ [Value.int .i64 2, .int .i64 (K : Int), .int .i64 (1 - 2 * y)], x.oneCell' = true := fun x hx => by
            simp only [List.mem_cons, List.not_mem_nil, or_false] at hx
            rcases hx with rfl | rfl | rfl <;> rfl
          have HJ : Hid _ := K7.alloc (.cells #[.int .i64 2, .int .i64 (K : Int), .int .i64 (1 - 2 * y)] 47)
          have hbq : tb + 1 ≤ (w7.alloc (.cells #[.int .i64 2, .int .i64 (K : Int), .int .i64 (1 - 2 * y)] 47)).heap.size := by
            have := K7.the.lt
            rw [World.size_alloc]; omega
          have EE : Hid (esRun C m (ns : Int) n F T false c0 (k + 1) = ⟨pkC C m d1 2, e.out ++ [(2, (K : Int), 1 - 2 * y)], e.th, e.dead⟩) := by
            show _ = _
            exact eE
          clear K7 own eE
          go_wp2_with (first
            | (at_builtin; refine wpList_append_own _ rfl _ _ 26 rfl (tb + 1) 47 j0 _ 3 24 Tryz.underlying26 gi gz0 gz1 gz2 rfl (by decide) _ _ _ rfl ownU ⟨w7.heap.size, 0, none⟩ 1 1 [.int .i64 2, .int .i64 (K : Int), .int .i64 (1 - 2 * y)] rfl rfl hnw h1c (by unfold maxLen; omega) (by omega) hbq ?_; intro v' w6 hown' hgrow hnil; obtain ⟨g6, cap6, rfl⟩ := ow_some hown' (by omega); have tg := ow_grown ownU hgrow))
          go_roundw
          case rel => exact ⟨k + 1, by omega, by go_num, by rw [EE.out], by rw [EE.out]; exact EvI.app (e := ⟨pkC C m d1 2, e.out, e.th, e.dead⟩) (HJ.out) (2, (K : Int), (1 - 2 * y)) hown' tg⟩
          case measure => simp [intOf]; omega
      by_cases h1 : t = 1
      · as_aux_lemma =>
          subst h1
          rw [esAct_1] at eE
          have JD := J.dead (K : Int)
          clear J X
          have own : w5.ownsRow (tb + 1) 47 3 u7 e.out.length (trC e.out) := JD.own
          have ownU := ow_on own (show Below w5.heap.size w5 (w5.alloc (.cells #[.int .i64 3, .int .i64 (K : Int), .int .i64 0] 47)) from (by repeat (first | exact Below.refl _ _ | assumption | refine below_alloc ?_ _ | refine Below.setCell ?_ (by first | omega | (simp; done) | (simp; omega)) _ | refine Below.alloc ?_ (by first | omega | (simp; done) | (simp; omega)) _ | refine Below.drew ?_)))
          have hnw := nw_cells3 w5 (.int .i64 3) (.int .i64 (K : Int)) (.int .i64 0) 47
          have h1c : ∀ x ∈ [Value.int .i64 3, .int .i64 (K : Int), .int .i64 0], x.oneCell' = true := fun x hx => by
            simp only [List.mem_cons, List.not_mem_nil, or_false] at hx
            rcases hx with rfl | rfl | rfl <;> rfl
          have HJ : Hid _ := JD.alloc (.cells #[.int .i64 3, .int .i64 (K : Int), .int .i64 0] 47)
          have hbq : tb + 1 ≤ (w5.alloc (.cells #[.int .i64 3, .int .i64 (K : Int), .int .i64 0] 47)).heap.size := by
            have := JD.the.lt
            rw [World.size_alloc]; omega
          have EE : Hid (esRun C m (ns : Int) n F T false c0 (k + 1) = ⟨d1, e.out ++ [(3, (K : Int), 0)], e.th, (K : Int)⟩) := by
            show _ = _
            exact eE
          clear JD own eE
          go_wp2_with (first
            | (at_builtin; refine wpList_append_own _ rfl _ _ 26 rfl (tb + 1) 47 j0 _ 3 24 Tryz.underlying26 gi gz0 gz1 gz2 rfl (by decide) _ _ _ rfl ownU ⟨w5.heap.size, 0, none⟩ 1 1 [.int .i64 3, .int .i64 (K : Int), .int .i64 0] rfl rfl hnw h1c (by unfold maxLen; omega) (by omega) hbq ?_; intro v' w6 hown' hgrow hnil; obtain ⟨g6, cap6, rfl⟩ := ow_some hown' (by omega); have tg := ow_grown ownU hgrow))
          go_roundw
          case rel => exact ⟨k + 1, by omega, by go_num, by rw [EE.out], by rw [EE.out]; exact EvI.app (e := ⟨d1, e.out, e.th, (K : Int)⟩) (HJ.out) (3, (K : Int), 0) hown' tg⟩
          case measure => simp [intOf]; omega
      by_cases h2 : t = 2 ∨ t = 3
      · as_aux_lemma =>
          rw [esAct_2 _ _ _ _ _ _ _ _ _ _ h2] at eE
          have JD := J.dead (-1)
          clear J X
          by_cases hd : 0 ≤ e.dead
          · rw [if_pos hd] at eE
            rcases h2 with rfl | rfl
            · have own : w5.ownsRow (tb + 1) 47 3 u7 e.out.length (trC e.out) := JD.own
              have ownU := ow_on own (show Below w5.heap.size w5 (w5.alloc (.cells #[.int .i64 4, .int .i64 e.dead, .int .i64 0] 47)) from (by repeat (first | exact Below.refl _ _ | assumption | refine below_alloc ?_ _ | refine Below.setCell ?_ (by first | omega | (simp; done) | (simp; omega)) _ | refine Below.alloc ?_ (by first | omega | (simp; done) | (simp; omega)) _ | refine Below.drew ?_)))
              have hnw := nw_cells3 w5 (.int .i64 4) (.int .i64 e.dead) (.int .i64 0) 47
              have h1c : ∀ x ∈ [Value.int .i64 4, .int .i64 e.dead, .int .i64 0], x.oneCell' = true := fun x hx => by
                simp only [List.mem_cons, List.not_mem_nil, or_false] at hx
                rcases hx with rfl | rfl | rfl <;> rfl
              have HJ : Hid _ := JD.alloc (.cells #[.int .i64 4, .int .i64 e.dead, .int .i64 0] 47)
              have hbq : tb + 1 ≤ (w5.alloc (.cells #[.int .i64 4, .int .i64 e.dead, .int .i64 0] 47)).heap.size := by
                have := JD.the.lt
                rw [World.size_alloc]; omega
              have EE : Hid (esRun C m (ns : Int) n F T false c0 (k + 1) = ⟨d1, e.out ++ [(4, e.dead, 0)], e.th, -1⟩) := by
                show _ = _
                exact eE
              clear JD own eE
              go_wp2_with (first
                | (at_builtin; refine wpList_append_own _ rfl _ _ 26 rfl (tb + 1) 47 j0 _ 3 24 Tryz.underlying26 gi gz0 gz1 gz2 rfl (by decide) _ _ _ rfl ownU ⟨w5.heap.size, 0, none⟩ 1 1 [.int .i64 4, .int .i64 e.dead, .int .i64 0] rfl rfl hnw h1c (by unfold maxLen; omega) (by omega) hbq ?_; intro v' w6 hown' hgrow hnil; obtain ⟨g6, cap6, rfl⟩ := ow_some hown' (by omega); have tg := ow_grown ownU hgrow))
              go_roundw
              case rel => exact ⟨k + 1, by omega, by go_num, by rw [EE.out], by rw [EE.out]; exact EvI.app (e := ⟨d1, e.out, e.th, -1⟩) (HJ.out) (4, e.dead, 0) hown' tg⟩
              case measure => simp [intOf]; omega
            · have own : w5.ownsRow (tb + 1) 47 3 u7 e.out.length (trC e.out) := JD.own
              have ownU := ow_on own (show Below w5.heap.size w5 (w5.alloc (.cells #[.int .i64 4, .int .i64 e.dead, .int .i64 0] 47)) from (by repeat (first | exact Below.refl _ _ | assumption | refine below_alloc ?_ _ | refine Below.setCell ?_ (by first | omega | (simp; done) | (simp; omega)) _ | refine Below.alloc ?_ (by first | omega | (simp; done) | (simp; omega)) _ | refine Below.drew ?_)))
              have hnw := nw_cells3 w5 (.int .i64 4) (.int .i64 e.dead) (.int .i64 0) 47
              have h1c : ∀ x ∈ [Value.int .i64 4, .int .i64 e.dead, .int .i64 0], x.oneCell' = true := fun x hx => by
                simp only [List.mem_cons, List.not_mem_nil, or_false] at hx
                rcases hx with rfl | rfl | rfl <;> rfl
              have HJ : Hid _ := JD.alloc (.cells #[.int .i64 4, .int .i64 e.dead, .int .i64 0] 47)
              have hbq : tb + 1 ≤ (w5.alloc (.cells #[.int .i64 4, .int .i64 e.dead, .int .i64 0] 47)).heap.size := by
                have := JD.the.lt
                rw [World.size_alloc]; omega
              have EE : Hid (esRun C m (ns : Int) n F T false c0 (k + 1) = ⟨d1, e.out ++ [(4, e.dead, 0)], e.th, -1⟩) := by
                show _ = _
                exact eE
              clear JD own eE
              go_wp2_with (first
                | (at_builtin; refine wpList_append_own _ rfl _ _ 26 rfl (tb + 1) 47 j0 _ 3 24 Tryz.underlying26 gi gz0 gz1 gz2 rfl (by decide) _ _ _ rfl ownU ⟨w5.heap.size, 0, none⟩ 1 1 [.int .i64 4, .int .i64 e.dead, .int .i64 0] rfl rfl hnw h1c (by unfold maxLen; omega) (by omega) hbq ?_; intro v' w6 hown' hgrow hnil; obtain ⟨g6, cap6, rfl⟩ := ow_some hown' (by omega); have tg := ow_grown ownU hgrow))
              go_roundw
              case rel => exact ⟨k + 1, by omega, by go_num, by rw [EE.out], by rw [EE.out]; exact EvI.app (e := ⟨d1, e.out, e.th, -1⟩) (HJ.out) (4, e.dead, 0) hown' tg⟩
              case measure => simp [intOf]; omega
          · rw [if_neg hd] at eE
            rcases h2 with rfl | rfl
            · have own : w5.ownsRow (tb + 1) 47 3 u7 e.out.length (trC e.out) := JD.own
              have ownU := ow_on own (show Below w5.heap.size w5 (w5.alloc (.cells #[.int .i64 4, .int .i64 (K : Int), .int .i64 0] 47)) from (by repeat (first | exact Below.refl _ _ | assumption | refine below_alloc ?_ _ | refine Below.setCell ?_ (by first | omega | (simp; done) | (simp; omega)) _ | refine Below.alloc ?_ (by first | omega | (simp; done) | (simp; omega)) _ | refine Below.drew ?_)))
              have hnw := nw_cells3 w5 (.int .i64 4) (.int .i64 (K : Int)) (.int .i64 0) 47
              have h1c : ∀ x ∈ [Value.int .i64 4, .int .i64 (K : Int), .int .i64 0], x.oneCell' = true := fun x hx => by
                simp only [List.mem_cons, List.not_mem_nil, or_false] at hx
                rcases hx with rfl | rfl | rfl <;> rfl
              have HJ : Hid _ := JD.alloc (.cells #[.int .i64 4, .int .i64 (K : Int), .int .i64 0] 47)
              have hbq : tb + 1 ≤ (w5.alloc (.cells #[.int .i64 4, .int .i64 (K : Int), .int .i64 0] 47)).heap.size := by
                have := JD.the.lt
                rw [World.size_alloc]; omega
              have EE : Hid (esRun C m (ns : Int) n F T false c0 (k + 1) = ⟨d1, e.out ++ [(4, (K : Int), 0)], e.th, -1⟩) := by
                show _ = _
                exact eE
              clear JD own eE
              go_wp2_with (first
                | (at_builtin; refine wpList_append_own _ rfl _ _ 26 rfl (tb + 1) 47 j0 _ 3 24 Tryz.underlying26 gi gz0 gz1 gz2 rfl (by decide) _ _ _ rfl ownU ⟨w5.heap.size, 0, none⟩ 1 1 [.int .i64 4, .int .i64 (K : Int), .int .i64 0] rfl rfl hnw h1c (by unfold maxLen; omega) (by omega) hbq ?_; intro v' w6 hown' hgrow hnil; obtain ⟨g6, cap6, rfl⟩ := ow_some hown' (by omega); have tg := ow_grown ownU hgrow))
              go_roundw
              case rel => exact ⟨k + 1, by omega, by go_num, by rw [EE.out], by rw [EE.out]; exact EvI.app (e := ⟨d1, e.out, e.th, -1⟩) (HJ.out) (4, (K : Int), 0) hown' tg⟩
              case measure => simp [intOf]; omega
            · have own : w5.ownsRow (tb + 1) 47 3 u7 e.out.length (trC e.out) := JD.own
              have ownU := ow_on own (show Below w5.heap.size w5 (w5.alloc (.cells #[.int .i64 4, .int .i64 (K : Int), .int .i64 0] 47)) from (by repeat (first | exact Below.refl _ _ | assumption | refine below_alloc ?_ _ | refine Below.setCell ?_ (by first | omega | (simp; done) | (simp; omega)) _ | refine Below.alloc ?_ (by first | omega | (simp; done) | (simp; omega)) _ | refine Below.drew ?_)))
              have hnw := nw_cells3 w5 (.int .i64 4) (.int .i64 (K : Int)) (.int .i64 0) 47
              have h1c : ∀ x ∈ [Value.int .i64 4, .int .i64 (K : Int), .int .i64 0], x.oneCell' = true := fun x hx => by
                simp only [List.mem_cons, List.not_mem_nil, or_false] at hx
                rcases hx with rfl | rfl | rfl <;> rfl
              have HJ : Hid _ := JD.alloc (.cells #[.int .i64 4, .int .i64 (K : Int), .int .i64 0] 47)
              have hbq : tb + 1 ≤ (w5.alloc (.cells #[.int .i64 4, .int .i64 (K : Int), .int .i64 0] 47)).heap.size := by
                have := JD.the.lt
                rw [World.size_alloc]; omega
              have EE : Hid (esRun C m (ns : Int) n F T false c0 (k + 1) = ⟨d1, e.out ++ [(4, (K : Int), 0)], e.th, -1⟩) := by
                show _ = _
                exact eE
              clear JD own eE
              go_wp2_with (first
                | (at_builtin; refine wpList_append_own _ rfl _ _ 26 rfl (tb + 1) 47 j0 _ 3 24 Tryz.underlying26 gi gz0 gz1 gz2 rfl (by decide) _ _ _ rfl ownU ⟨w5.heap.size, 0, none⟩ 1 1 [.int .i64 4, .int .i64 (K : Int), .int .i64 0] rfl rfl hnw h1c (by unfold maxLen; omega) (by omega) hbq ?_; intro v' w6 hown' hgrow hnil; obtain ⟨g6, cap6, rfl⟩ := ow_some hown' (by omega); have tg := ow_grown ownU hgrow))
              go_roundw
              case rel => exact ⟨k + 1, by omega, by go_num, by rw [EE.out], by rw [EE.out]; exact EvI.app (e := ⟨d1, e.out, e.th, -1⟩) (HJ.out) (4, (K : Int), 0) hown' tg⟩
              case measure => simp [intOf]; omega
      by_cases h4 : t = 4 ∨ t = 5 ∨ t = 6
      · rw [esAct_4 _ _ _ _ _ _ _ _ _ _ h4] at eE
        obtain ⟨b0, b1⟩ := J.lay.cells
        have lb := J.lay.lt
        have g1 := pk_range C m d1 (ns : Int)
        have g2 := g1.2 (by omega)
        have g3 := pk_pos C m d1 (ns : Int)
        obtain ⟨s, es⟩ : ∃ s : Nat, pkV C m d1 (ns : Int) = s := ⟨_, (Int.toNat_of_nonneg g1.1).symm⟩
        obtain ⟨d2, ed2⟩ : ∃ d2, pkC C m d1 (ns : Int) = d2 := ⟨_, rfl⟩
        have kp := fun W hW => pick_any B p m cap ao C d1 (ns : Int) W hW (by omega) (by omega)
        unfold esReset at eE
        rw [es, ed2] at eE kp
        rw [es] at g2
        rw [ed2] at g3
        have hs : s < ns := by omega
        have e2 : d2.pos < 1000000 := by omega
        clear g1 g3 es ed2 X
        rcases h4 with rfl | rfl | rfl
        · as_aux_lemma =>
            go_wp2_with fail
            refine (kp _ J.cur).mono ?_
            rintro _ w7 ⟨rfl, c2, t2⟩
            have K7 := J.pick c2 t2
            have v0 : w7.cell? ⟨tb, s, none⟩ = some (.int .i64 (e.th (s : Int))) := K7.the.cell hs
            have lt := K7.the.lt
            have o3s := o3 (s : Int)
            obtain ⟨z, ez⟩ : ∃ z, e.th (s : Int) = z := ⟨_, rfl⟩
            rw [ez] at v0 o3s eE
            clear J c2 t2 b0 b1 lb kp ez
            simp only at K7
            by_cases hz : z = 0
            · subst hz
              rw [if_pos rfl] at eE
              have own : w7.ownsRow (tb + 1) 47 3 u7 e.out.length (trC e.out) := K7.own
              have ownU := ow_on own (show Below w7.heap.size w7 (w7.alloc (.cells #[.int .i64 5, .int .i64 (s : Int), .int .i64 0] 47)) from (by repeat (first | exact Below.refl _ _ | assumption | refine below_alloc ?_ _ | refine Below.setCell ?_ (by first | omega | (simp; done) | (simp; omega)) _ | refine Below.alloc ?_ (by first | omega | (simp; done) | (simp; omega)) _ | refine Below.drew ?_)))
              have hnw := nw_cells3 w7 (.int .i64 5) (.int .i64 (s : Int)) (.int .i64 0) 47
              have h1c : ∀ x ∈ [Value.int .i64 5, .int .i64 (s : Int), .int .i64 0], x.oneCell' = true := fun x hx => by
                simp only [List.mem_cons, List.not_mem_nil, or_false] at hx
                rcases hx with rfl | rfl | rfl <;> rfl
              have HJ : Hid _ := K7.alloc (.cells #[.int .i64 5, .int .i64 (s : Int), .int .i64 0] 47)
              have hbq : tb + 1 ≤ (w7.alloc (.cells #[.int .i64 5, .int .i64 (s : Int), .int .i64 0] 47)).heap.size := by
                have := K7.the.lt
                rw [World.size_alloc]; omega
              have EE : Hid (esRun C m (ns : Int) n F T false c0 (k + 1) = ⟨d2, e.out ++ [(5, (s : Int), 0)], e.th, e.dead⟩) := by
                show _ = _
                exact eE
              clear K7 own eE
              go_wp2_with (first
                | (at_builtin; refine wpList_append_own _ rfl _ _ 26 rfl (tb + 1) 47 j0 _ 3 24 Tryz.underlying26 gi gz0 gz1 gz2 rfl (by decide) _ _ _ rfl ownU ⟨w7.heap.size, 0, none⟩ 1 1 [.int .i64 5, .int .i64 (s : Int), .int .i64 0] rfl rfl hnw h1c (by unfold maxLen; omega) (by omega) hbq ?_; intro v' w6 hown' hgrow hnil; obtain ⟨g6, cap6, rfl⟩ := ow_some hown' (by omega); have tg := ow_grown ownU hgrow))
              go_roundw
              case rel => exact ⟨k + 1, by omega, by go_num, by rw [EE.out], by rw [EE.out]; exact EvI.app (e := ⟨d2, e.out, e.th, e.dead⟩) (HJ.out) (5, (s : Int), 0) hown' tg⟩
              case measure => simp [intOf]; omega
            · rw [if_neg hz] at eE
              simp only [Bool.false_eq_true, if_false] at eE
              go_wp2_with fail
              refine (pick_any B p m cap ao C d2 4 _ K7.cur e2 (by omega)).mono ?_
              rintro _ w8 ⟨rfl, c2, t2⟩
              have K8 := K7.pick c2 t2
              simp only at K8
              obtain ⟨y, ey⟩ : ∃ y, pkV C m d2 4 = y := ⟨_, rfl⟩
              rw [ey] at eE ⊢
              clear K7 c2 t2 ey v0 lt
              by_cases hy : y = 0
              · subst hy
                rw [if_pos rfl] at eE
                have own : w8.ownsRow (tb + 1) 47 3 u7 e.out.length (trC e.out) := K8.own
                have ownU := ow_on own (show Below w8.heap.size w8 (w8.alloc (.cells #[.int .i64 5, .int .i64 (s : Int), .int .i64 0] 47)) from (by repeat (first | exact Below.refl _ _ | assumption | refine below_alloc ?_ _ | refine Below.setCell ?_ (by first | omega | (simp; done) | (simp; omega)) _ | refine Below.alloc ?_ (by first | omega | (simp; done) | (simp; omega)) _ | refine Below.drew ?_)))
                have hnw := nw_cells3 w8 (.int .i64 5) (.int .i64 (s : Int)) (.int .i64 0) 47
                have h1c : ∀ x ∈ [Value.int .i64 5, .int .i64 (s : Int), .int .i64 0], x.oneCell' = true := fun x hx => by
                  simp only [List.mem_cons, List.not_mem_nil, or_false] at hx
                  rcases hx with rfl | rfl | rfl <;> rfl
                have HJ : Hid _ := K8.alloc (.cells #[.int .i64 5, .int .i64 (s : Int), .int .i64 0] 47)
                have hbq : tb + 1 ≤ (w8.alloc (.cells #[.int .i64 5, .int .i64 (s : Int), .int .i64 0] 47)).heap.size := by
                  have := K8.the.lt
                  rw [World.size_alloc]; omega
                have EE : Hid (esRun C m (ns : Int) n F T false c0 (k + 1) = ⟨pkC C m d2 4, e.out ++ [(5, (s : Int), 0)], e.th, e.dead⟩) := by
                  show _ = _
                  exact eE
                clear K8 own eE
                go_wp2_with (first
                  | (at_builtin; refine wpList_append_own _ rfl _ _ 26 rfl (tb + 1) 47 j0 _ 3 24 Tryz.underlying26 gi gz0 gz1 gz2 rfl (by decide) _ _ _ rfl ownU ⟨w8.heap.size, 0, none⟩ 1 1 [.int .i64 5, .int .i64 (s : Int), .int .i64 0] rfl rfl hnw h1c (by unfold maxLen; omega) (by omega) hbq ?_; intro v' w6 hown' hgrow hnil; obtain ⟨g6, cap6, rfl⟩ := ow_some hown' (by omega); have tg := ow_grown ownU hgrow))
                go_roundw
                case rel => exact ⟨k + 1, by omega, by go_num, by rw [EE.out], by rw [EE.out]; exact EvI.app (e := ⟨pkC C m d2 4, e.out, e.th, e.dead⟩) (HJ.out) (5, (s : Int), 0) hown' tg⟩
                case measure => simp [intOf]; omega
              · rw [if_neg hy] at eE
                have hy' : (y == 0) = false := by simp [hy]
                have EE : Hid (esRun C m (ns : Int) n F T false c0 (k + 1) = ⟨pkC C m d2 4, e.out, e.th, e.dead⟩) := by
                  show _ = _
                  exact eE
                have HJ : Hid _ := K8
                clear K8 eE
                go_wp2
                go_roundw
                case rel => exact ⟨k + 1, by omega, by go_num, by rw [EE.out], by rw [EE.out]; exact HJ.out⟩
                case measure => simp [intOf]; omega
        · as_aux_lemma =>
            go_wp2_with fail
            refine (kp _ J.cur).mono ?_
            rintro _ w7 ⟨rfl, c2, t2⟩
            have K7 := J.pick c2 t2
            have v0 : w7.cell? ⟨tb, s, none⟩ = some (.int .i64 (e.th (s : Int))) := K7.the.cell hs
            have lt := K7.the.lt
            have o3s := o3 (s : Int)
            obtain ⟨z, ez⟩ : ∃ z, e.th (s : Int) = z := ⟨_, rfl⟩
            rw [ez] at v0 o3s eE
            clear J c2 t2 b0 b1 lb kp ez
            simp only at K7
            by_cases hz : z = 0
            · subst hz
              rw [if_pos rfl] at eE
              have own : w7.ownsRow (tb + 1) 47 3 u7 e.out.length (trC e.out) := K7.own
              have ownU := ow_on own (show Below w7.heap.size w7 (w7.alloc (.cells #[.int .i64 5, .int .i64 (s : Int), .int .i64 0] 47)) from (by repeat (first | exact Below.refl _ _ | assumption | refine below_alloc ?_ _ | refine Below.setCell ?_ (by first | omega | (simp; done) | (simp; omega)) _ | refine Below.alloc ?_ (by first | omega | (simp; done) | (simp; omega)) _ | refine Below.drew ?_)))
              have hnw := nw_cells3 w7 (.int .i64 5) (.int .i64 (s : Int)) (.int .i64 0) 47
              have h1c : ∀ x ∈ [Value.int .i64 5, .int .i64 (s : Int), .int .i64 0], x.oneCell' = true := fun x hx => by
                simp only [List.mem_cons, List.not_mem_nil, or_false] at hx
                rcases hx with rfl | rfl | rfl <;> rfl
              have HJ : Hid _ := K7.alloc (.cells #[.int .i64 5, .int .i64 (s : Int), .int .i64 0] 47)
              have hbq : tb + 1 ≤ (w7.alloc (.cells #[.int .i64 5, .int .i64 (s : Int), .int .i64 0] 47)).heap.size := by
                have := K7.the.lt
                rw [World.size_alloc]; omega
              have EE : Hid (esRun C m (ns : Int) n F T false c0 (k + 1) = ⟨d2, e.out ++ [(5, (s : Int), 0)], e.th, e.dead⟩) := by
                show _ = _
                exact eE
              clear K7 own eE
              go_wp2_with (first
                | (at_builtin; refine wpList_append_own _ rfl _ _ 26 rfl (tb + 1) 47 j0 _ 3 24 Tryz.underlying26 gi gz0 gz1 gz2 rfl (by decide) _ _ _ rfl ownU ⟨w7.heap.size, 0, none⟩ 1 1 [.int .i64 5, .int .i64 (s : Int), .int .i64 0] rfl rfl hnw h1c (by unfold maxLen; omega) (by omega) hbq ?_; intro v' w6 hown' hgrow hnil; obtain ⟨g6, cap6, rfl⟩ := ow_some hown' (by omega); have tg := ow_grown ownU hgrow))
              go_roundw
              case rel => exact ⟨k + 1, by omega, by go_num, by rw [EE.out], by rw [EE.out]; exact EvI.app (e := ⟨d2, e.out, e.th, e.dead⟩) (HJ.out) (5, (s : Int), 0) hown' tg⟩
              case measure => simp [intOf]; omega
            · rw [if_neg hz] at eE
              simp only [Bool.false_eq_true, if_false] at eE
              go_wp2_with fail
              refine (pick_any B p m cap ao C d2 4 _ K7.cur e2 (by omega)).mono ?_
              rintro _ w8 ⟨rfl, c2, t2⟩
              have K8 := K7.pick c2 t2
              simp only at K8
              obtain ⟨y, ey⟩ : ∃ y, pkV C m d2 4 = y := ⟨_, rfl⟩
              rw [ey] at eE ⊢
              clear K7 c2 t2 ey v0 lt
              by_cases hy : y = 0
              · subst hy
                rw [if_pos rfl] at eE
                have own : w8.ownsRow (tb + 1) 47 3 u7 e.out.length (trC e.out) := K8.own
                have ownU := ow_on own (show Below w8.heap.size w8 (w8.alloc (.cells #[.int .i64 5, .int .i64 (s : Int), .int .i64 0] 47)) from (by repeat (first | exact Below.refl _ _ | assumption | refine below_alloc ?_ _ | refine Below.setCell ?_ (by first | omega | (simp; done) | (simp; omega)) _ | refine Below.alloc ?_ (by first | omega | (simp; done) | (simp; omega)) _ | refine Below.drew ?_)))
                have hnw := nw_cells3 w8 (.int .i64 5) (.int .i64 (s : Int)) (.int .i64 0) 47
                have h1c : ∀ x ∈ [Value.int .i64 5, .int .i64 (s : Int), .int .i64 0], x.oneCell' = true := fun x hx => by
                  simp only [List.mem_cons, List.not_mem_nil, or_false] at hx
                  rcases hx with rfl | rfl | rfl <;> rfl
                have HJ : Hid _ := K8.alloc (.cells #[.int .i64 5, .int .i64 (s : Int), .int .i64 0] 47)
                have hbq : tb + 1 ≤ (w8.alloc (.cells #[.int .i64 5, .int .i64 (s : Int), .int .i64 0] 47)).heap.size := by
                  have := K8.the.lt
                  rw [World.size_alloc]; omega
                have EE : Hid (esRun C m (ns : Int) n F T false c0 (k + 1) = ⟨pkC C m d2 4, e.out ++ [(5, (s : Int), 0)], e.th, e.dead⟩) := by
                  show _ = _
                  exact eE
                clear K8 own eE
                go_wp2_with (first
                  | (at_builtin; refine wpList_append_own _ rfl _ _ 26 rfl (tb + 1) 47 j0 _ 3 24 Tryz.underlying26 gi gz0 gz1 gz2 rfl (by decide) _ _ _ rfl ownU ⟨w8.heap.size, 0, none⟩ 1 1 [.int .i64 5, .int .i64 (s : Int), .int .i64 0] rfl rfl hnw h1c (by unfold maxLen; omega) (by omega) hbq ?_; intro v' w6 hown' hgrow hnil; obtain ⟨g6, cap6, rfl⟩ := ow_some hown' (by omega); have tg := ow_grown ownU hgrow))
                go_roundw
                case rel => exact ⟨k + 1, by omega, by go_num, by rw [EE.out], by rw [EE.out]; exact EvI.app (e := ⟨pkC C m d2 4, e.out, e.th, e.dead⟩) (HJ.out) (5, (s : Int), 0) hown' tg⟩
                case measure => simp [intOf]; omega
              · rw [if_neg hy] at eE
                have hy' : (y == 0) = false := by simp [hy]
                have EE : Hid (esRun C m (ns : Int) n F T false c0 (k + 1) = ⟨pkC C m d2 4, e.out, e.th, e.dead⟩) := by
                  show _ = _
                  exact eE
                have HJ : Hid _ := K8
                clear K8 eE
                go_wp2
                go_roundw
                case rel => exact ⟨k + 1, by omega, by go_num, by rw [EE.out], by rw [EE.out]; exact HJ.out⟩
                case measure => simp [intOf]; omega
        · as_aux_lemma =>
            go_wp2_with fail
            refine (kp _ J.cur).mono ?_
            rintro _ w7 ⟨rfl, c2, t2⟩
            have K7 := J.pick c2 t2
            have v0 : w7.cell? ⟨tb, s, none⟩ = some (.int .i64 (e.th (s : Int))) := K7.the.cell hs
            have lt := K7.the.lt
            have o3s := o3 (s : Int)
            obtain ⟨z, ez⟩ : ∃ z, e.th (s : Int) = z := ⟨_, rfl⟩
            rw [ez] at v0 o3s eE
            clear J c2 t2 b0 b1 lb kp ez
            simp only at K7
            by_cases hz : z = 0
            · subst hz
              rw [if_pos rfl] at eE
              have own : w7.ownsRow (tb + 1) 47 3 u7 e.out.length (trC e.out) := K7.own
              have ownU := ow_on own (show Below w7.heap.size w7 (w7.alloc (.cells #[.int .i64 5, .int .i64 (s : Int), .int .i64 0] 47)) from (by repeat (first | exact Below.refl _ _ | assumption | refine below_alloc ?_ _ | refine Below.setCell ?_ (by first | omega | (simp; done) | (simp; omega)) _ | refine Below.alloc ?_ (by first | omega | (simp; done) | (simp; omega)) _ | refine Below.drew ?_)))
              have hnw := nw_cells3 w7 (.int .i64 5) (.int .i64 (s : Int)) (.int .i64 0) 47
              have h1c : ∀ x ∈ [Value.int .i64 5, .int .i64 (s : Int), .int .i64 0], x.oneCell' = true := fun x hx => by
                simp only [List.mem_cons, List.not_mem_nil, or_false] at hx
                rcases hx with rfl | rfl | rfl <;> rfl
              have HJ : Hid _ := K7.alloc (.cells #[.int .i64 5, .int .i64 (s : Int), .int .i64 0] 47)
              have hbq : tb + 1 ≤ (w7.alloc (.cells #[.int .i64 5, .int .i64 (s : Int), .int .i64 0] 47)).heap.size := by
                have := K7.the.lt
                rw [World.size_alloc]; omega
              have EE : Hid (esRun C m (ns : Int) n F T false c0 (k + 1) = ⟨d2, e.out ++ [(5, (s : Int), 0)], e.th, e.dead⟩) := by
                show _ = _
                exact eE
              clear K7 own eE
              go_wp2_with (first
                | (at_builtin; refine wpList_append_own _ rfl _ _ 26 rfl (tb + 1) 47 j0 _ 3 24 Tryz.underlying26 gi gz0 gz1 gz2 rfl (by decide) _ _ _ rfl ownU ⟨w7.heap.size, 0, none⟩ 1 1 [.int .i64 5, .int .i64 (s : Int), .int .i64 0] rfl rfl hnw h1c (by unfold maxLen; omega) (by omega) hbq ?_; intro v' w6 hown' hgrow hnil; obtain ⟨g6, cap6, rfl⟩ := ow_some hown' (by omega); have tg := ow_grown ownU hgrow))
              go_roundw
              case rel => exact ⟨k + 1, by omega, by go_num, by rw [EE.out], by rw [EE.out]; exact EvI.app (e := ⟨d2, e.out, e.th, e.dead⟩) (HJ.out) (5, (s : Int), 0) hown' tg⟩
              case measure => simp [intOf]; omega
            · rw [if_neg hz] at eE
              simp only [Bool.false_eq_true, if_false] at eE
              go_wp2_with fail
              refine (pick_any B p m cap ao C d2 4 _ K7.cur e2 (by omega)).mono ?_
              rintro _ w8 ⟨rfl, c2, t2⟩
              have K8 := K7.pick c2 t2
              simp only at K8
              obtain ⟨y, ey⟩ : ∃ y, pkV C m d2 4 = y := ⟨_, rfl⟩
              rw [ey] at eE ⊢
              clear K7 c2 t2 ey v0 lt
              by_cases hy : y = 0
              · subst hy
                rw [if_pos rfl] at eE
                have own : w8.ownsRow (tb + 1) 47 3 u7 e.out.length (trC e.out) := K8.own
                have ownU := ow_on own (show Below w8.heap.size w8 (w8.alloc (.cells #[.int .i64 5, .int .i64 (s : Int), .int .i64 0] 47)) from (by repeat (first | exact Below.refl _ _ | assumption | refine below_alloc ?_ _ | refine Below.setCell ?_ (by first | omega | (simp; done) | (simp; omega)) _ | refine Below.alloc ?_ (by first | omega | (simp; done) | (simp; omega)) _ | refine Below.drew ?_)))
                have hnw := nw_cells3 w8 (.int .i64 5) (.int .i64 (s : Int)) (.int .i64 0) 47
                have h1c : ∀ x ∈ [Value.int .i64 5, .int .i64 (s : Int), .int .i64 0], x.oneCell' = true := fun x hx => by
                  simp only [List.mem_cons, List.not_mem_nil, or_false] at hx
                  rcases hx with rfl | rfl | rfl <;> rfl
                have HJ : Hid _ := K8.alloc (.cells #[.int .i64 5, .int .i64 (s : Int), .int .i64 0] 47)
                have hbq : tb + 1 ≤ (w8.alloc (.cells #[.int .i64 5, .int .i64 (s : Int), .int .i64 0] 47)).heap.size := by
                  have := K8.the.lt
                  rw [World.size_alloc]; omega
                have EE : Hid (esRun C m (ns : Int) n F T false c0 (k + 1) = ⟨pkC C m d2 4, e.out ++ [(5, (s : Int), 0)], e.th, e.dead⟩) := by
                  show _ = _
                  exact eE
                clear K8 own eE
                go_wp2_with (first
                  | (at_builtin; refine wpList_append_own _ rfl _ _ 26 rfl (tb + 1) 47 j0 _ 3 24 Tryz.underlying26 gi gz0 gz1 gz2 rfl (by decide) _ _ _ rfl ownU ⟨w8.heap.size, 0, none⟩ 1 1 [.int .i64 5, .int .i64 (s : Int), .int .i64 0] rfl rfl hnw h1c (by unfold maxLen; omega) (by omega) hbq ?_; intro v' w6 hown' hgrow hnil; obtain ⟨g6, cap6, rfl⟩ := ow_some hown' (by omega); have tg := ow_grown ownU hgrow))
                go_roundw
                case rel => exact ⟨k + 1, by omega, by go_num, by rw [EE.out], by rw [EE.out]; exact EvI.app (e := ⟨pkC C m d2 4, e.out, e.th, e.dead⟩) (HJ.out) (5, (s : Int), 0) hown' tg⟩
                case measure => simp [intOf]; omega
              · rw [if_neg hy] at eE
                have hy' : (y == 0) = false := by simp [hy]
                have EE : Hid (esRun C m (ns : Int) n F T false c0 (k + 1) = ⟨pkC C m d2 4, e.out, e.th, e.dead⟩) := by
                  show _ = _
                  exact eE
                have HJ : Hid _ := K8
                clear K8 eE
                go_wp2
                go_roundw
                case rel => exact ⟨k + 1, by omega, by go_num, by rw [EE.out], by rw [EE.out]; exact HJ.out⟩
                case measure => simp [intOf]; omega
      have h7 : 7 ≤ t := by omega
      have h4' : ¬ t = 4 := by omega
      have h5' : ¬ t = 5 := by omega
      have h6' : ¬ t = 6 := by omega
      have h2' : ¬ t = 2 := by omega
      have h3' : ¬ t = 3 := by omega
      rw [esAct_7 _ _ _ _ _ _ _ _ _ _ h7] at eE
      obtain ⟨s1, s2, s3, s4, s5⟩ := lok_sides hl K hK
      go_wp2_with fail
      refine (pick_any B p m cap ao C d1 2 _ J.cur (by omega) (by omega)).mono ?_
      rintro _ w7 ⟨rfl, c2, t2⟩
      have K7 := J.pick c2 t2
      have X7 := X.turned t2 (.inl (by decide))
      obtain ⟨x0, x1⟩ := X7.cells
      have lx := X7.lt
      have g1 := pk_range C m d1 2
      have g2 := g1.2 (by omega)
      have g3 := pk_pos C m d1 2
      obtain ⟨y, ey⟩ : ∃ y, pkV C m d1 2 = y := ⟨_, rfl⟩
      obtain ⟨d2, ed2⟩ : ∃ d2, pkC C m d1 2 = d2 := ⟨_, rfl⟩
      rw [ed2] at K7 g3 eE
      rw [ey] at g1 g2 eE ⊢
      simp only at K7
      have e2 : d2.pos < 1000000 := by
        have := K7.cur
        omega
      have hy : y = 0 ∨ y = 1 := by omega
      clear J X c2 t2 ey ed2 g1 g2 g3 h0 h1 h2 h4 X7
      unfold esPass at eE
      obtain ⟨fF, eF⟩ : ∃ fF, F K = fF := ⟨_, rfl⟩
      obtain ⟨fT, eT⟩ : ∃ fT, T K = fT := ⟨_, rfl⟩
      rw [eF] at x0 s1 s2 s5
      rw [eT] at x1 s3 s4 s5
      rcases hy with rfl | rfl
      · as_aux_lemma =>
          rw [show (1 - 2 * 0 : Int) = 1 from rfl] at eE
          rw [show esFr F T (K : Int) 1 = fF by simp [esFr, eF], show esTo F T (K : Int) 1 = fT by simp [esTo, eT]] at eE
          clear eF eT
          by_cases hf : fF < 0
          · have hfe : fF = -1 := by omega
            subst hfe
            rw [if_pos (.inl (by omega))] at eE
            obtain ⟨j, ej⟩ : ∃ j : Nat, fT = j := ⟨fT.toNat, by omega⟩
            subst ej
            have hj : j < ns := by omega
            have v1 : w7.cell? ⟨tb, j, none⟩ = some (.int .i64 (e.th (j : Int))) := K7.the.cell hj
            have lt := K7.the.lt
            have fz1 := K7.the.frozen j
            have o3j := o3 (j : Int)
            have K9 := K7.set (i := j) (e.th (j : Int) + 1) (th := thSt e.th (-1) (j : Int)) (fun a _ => thSt_to e.th j a)
            simp only at K9
            obtain ⟨zj, ezj⟩ : ∃ zj, e.th (j : Int) = zj := ⟨_, rfl⟩
            rw [ezj] at v1 o3j K9
            clear K7 ezj
            have own : (w7.setCell ⟨tb, j, none⟩ (.int .i64 (zj + 1))).ownsRow (tb + 1) 47 3 u7 e.out.length (trC e.out) := K9.own
            have ownU := ow_on own (show Below (w7.setCell ⟨tb, j, none⟩ (.int .i64 (zj + 1))).heap.size (w7.setCell ⟨tb, j, none⟩ (.int .i64 (zj + 1))) ((w7.setCell ⟨tb, j, none⟩ (.int .i64 (zj + 1))).alloc (.cells #[.int .i64 1, .int .i64 (K : Int), .int .i64 1] 47)) from (by repeat (first | exact Below.refl _ _ | assumption | refine below_alloc ?_ _ | refine Below.setCell ?_ (by first | omega | (simp; done) | (simp; omega)) _ | refine Below.alloc ?_ (by first | omega | (simp; done) | (simp; omega)) _ | refine Below.drew ?_)))
            have hnw := nw_cells3 (w7.setCell ⟨tb, j, none⟩ (.int .i64 (zj + 1))) (.int .i64 1) (.int .i64 (K : Int)) (.int .i64 1) 47
            rw [show (w7.setCell ⟨tb, j, none⟩ (.int .i64 (zj + 1))).heap.size = w7.heap.size by simp [World.setCell]] at hnw
            have h1c : ∀ x ∈ [Value.int .i64 1, .int .i64 (K : Int), .int .i64 1], x.oneCell' = true := fun x hx => by
              simp only [List.mem_cons, List.not_mem_nil, or_false] at hx
              rcases hx with rfl | rfl | rfl <;> rfl
            have HJ : Hid _ := K9.alloc (.cells #[.int .i64 1, .int .i64 (K : Int), .int .i64 1] 47)
            have hbq : tb + 1 ≤ ((w7.setCell ⟨tb, j, none⟩ (.int .i64 (zj + 1))).alloc (.cells #[.int .i64 1, .int .i64 (K : Int), .int .i64 1] 47)).heap.size := by
              have := K9.the.lt
              rw [World.size_alloc]; omega
            have EE : Hid (esRun C m (ns : Int) n F T false c0 (k + 1) = ⟨d2, e.out ++ [(1, (K : Int), 1)], thSt e.th (-1) (j : Int), e.dead⟩) := by
              show _ = _
              exact eE
            clear K9 own eE
            go_wp2_with (first
              | (at_builtin; refine wpList_append_own _ rfl _ _ 26 rfl (tb + 1) 47 j0 _ 3 24 Tryz.underlying26 gi gz0 gz1 gz2 rfl (by decide) _ _ _ rfl ownU ⟨w7.heap.size, 0, none⟩ 1 1 [.int .i64 1, .int .i64 (K : Int), .int .i64 1] rfl rfl hnw h1c (by unfold maxLen; omega) (by omega) hbq ?_; intro v' w6 hown' hgrow hnil; obtain ⟨g6, cap6, rfl⟩ := ow_some hown' (by omega); have tg := ow_grown ownU hgrow))
            go_roundw
            case rel => exact ⟨k + 1, by omega, by go_num, by rw [EE.out], by rw [EE.out]; exact EvI.app (e := ⟨d2, e.out, thSt e.th (-1) (j : Int), e.dead⟩) (HJ.out) (1, (K : Int), 1) hown' tg⟩
            case measure => simp [intOf]; omega
          · obtain ⟨i, ei⟩ : ∃ i : Nat, fF = i := ⟨fF.toNat, by omega⟩
            subst ei
            have hi0 : i < ns := by omega
            have v0 : w7.cell? ⟨tb, i, none⟩ = some (.int .i64 (e.th (i : Int))) := K7.the.cell hi0
            have lt := K7.the.lt
            have o3i := o3 (i : Int)
            obtain ⟨z, ez⟩ : ∃ z, e.th (i : Int) = z := ⟨_, rfl⟩
            rw [ez] at v0 o3i eE
            by_cases hz : 0 < z
            · rw [if_pos (.inr hz)] at eE
              have fz0 := K7.the.frozen i
              by_cases ht : fT < 0
              · have hte : fT = -1 := by omega
                subst hte
                have K9 := K7.set (i := i) (z - 1) (th := thSt e.th (i : Int) (-1)) (fun a _ => by rw [← ez]; exact thSt_fr e.th i a)
                simp only at K9
                clear K7 ez
                have own : (w7.setCell ⟨tb, i, none⟩ (.int .i64 (z - 1))).ownsRow (tb + 1) 47 3 u7 e.out.length (trC e.out) := K9.own
                have ownU := ow_on own (show Below (w7.setCell ⟨tb, i, none⟩ (.int .i64 (z - 1))).heap.size (w7.setCell ⟨tb, i, none⟩ (.int .i64 (z - 1))) ((w7.setCell ⟨tb, i, none⟩ (.int .i64 (z - 1))).alloc (.cells #[.int .i64 1, .int .i64 (K : Int), .int .i64 1] 47)) from (by repeat (first | exact Below.refl _ _ | assumption | refine below_alloc ?_ _ | refine Below.setCell ?_ (by first | omega | (simp; done) | (simp; omega)) _ | refine Below.alloc ?_ (by first | omega | (simp; done) | (simp; omega)) _ | refine Below.drew ?_)))
                have hnw := nw_cells3 (w7.setCell ⟨tb, i, none⟩ (.int .i64 (z - 1))) (.int .i64 1) (.int .i64 (K : Int)) (.int .i64 1) 47
                rw [show (w7.setCell ⟨tb, i, none⟩ (.int .i64 (z - 1))).heap.size = w7.heap.size by simp [World.setCell]] at hnw
                have h1c : ∀ x ∈ [Value.int .i64 1, .int .i64 (K : Int), .int .i64 1], x.oneCell' = true := fun x hx => by
                  simp only [List.mem_cons, List.not_mem_nil, or_false] at hx
                  rcases hx with rfl | rfl | rfl <;> rfl
                have HJ : Hid _ := K9.alloc (.cells #[.int .i64 1, .int .i64 (K : Int), .int .i64 1] 47)
                have hbq : tb + 1 ≤ ((w7.setCell ⟨tb, i, none⟩ (.int .i64 (z - 1))).alloc (.cells #[.int .i64 1, .int .i64 (K : Int), .int .i64 1] 47)).heap.size := by
                  have := K9.the.lt
                  rw [World.size_alloc]; omega
                have EE : Hid (esRun C m (ns : Int) n F T false c0 (k + 1) = ⟨d2, e.out ++ [(1, (K : Int), 1)], thSt e.th (i : Int) (-1), e.dead⟩) := by
                  show _ = _
                  exact eE
                clear K9 own eE
                go_wp2_with (first
                  | (at_builtin; refine wpList_append_own _ rfl _ _ 26 rfl (tb + 1) 47 j0 _ 3 24 Tryz.underlying26 gi gz0 gz1 gz2 rfl (by decide) _ _ _ rfl ownU ⟨w7.heap.size, 0, none⟩ 1 1 [.int .i64 1, .int .i64 (K : Int), .int .i64 1] rfl rfl hnw h1c (by unfold maxLen; omega) (by omega) hbq ?_; intro v' w6 hown' hgrow hnil; obtain ⟨g6, cap6, rfl⟩ := ow_some hown' (by omega); have tg := ow_grown ownU hgrow))
                go_roundw
                case rel => exact ⟨k + 1, by omega, by go_num, by rw [EE.out], by rw [EE.out]; exact EvI.app (e := ⟨d2, e.out, thSt e.th (i : Int) (-1), e.dead⟩) (HJ.out) (1, (K : Int), 1) hown' tg⟩
                case measure => simp [intOf]; omega
              · obtain ⟨j, ej⟩ : ∃ j : Nat, fT = j := ⟨fT.toNat, by omega⟩
                subst ej
                have hj : j < ns := by omega
                have hij : ¬ i = j := by omega
                have hji : ¬ j = i := by omega
                have v1 : w7.cell? ⟨tb, j, none⟩ = some (.int .i64 (e.th (j : Int))) := K7.the.cell hj
                have fz1 := K7.the.frozen j
                have o3j := o3 (j : Int)
                obtain ⟨zj, ezj⟩ : ∃ zj, e.th (j : Int) = zj := ⟨_, rfl⟩
                have K9 := (K7.set (i := i) (z - 1) (th := fun s => if s = (i : Int) then z - 1 else e.th s) (fun a _ => thSt_mid e.th i a z)).set (i := j) (zj + 1) (th := thSt e.th (i : Int) (j : Int)) (fun a _ => by rw [← ez, ← ezj]; exact thSt_both e.th hij a)
                simp only at K9
                rw [ezj] at v1 o3j
                clear K7 ez ezj
                have own : ((w7.setCell ⟨tb, i, none⟩ (.int .i64 (z - 1))).setCell ⟨tb, j, none⟩ (.int .i64 (zj + 1))).ownsRow (tb + 1) 47 3 u7 e.out.length (trC e.out) := K9.own
                have ownU := ow_on own (show Below ((w7.setCell ⟨tb, i, none⟩ (.int .i64 (z - 1))).setCell ⟨tb, j, none⟩ (.int .i64 (zj + 1))).heap.size ((w7.setCell ⟨tb, i, none⟩ (.int .i64 (z - 1))).setCell ⟨tb, j, none⟩ (.int .i64 (zj + 1))) (((w7.setCell ⟨tb, i, none⟩ (.int .i64 (z - 1))).setCell ⟨tb, j, none⟩ (.int .i64 (zj + 1))).alloc (.cells #[.int .i64 1, .int .i64 (K : Int), .int .i64 1] 47)) from (by repeat (first | exact Below.refl _ _ | assumption | refine below_alloc ?_ _ | refine Below.setCell ?_ (by first | omega | (simp; done) | (simp; omega)) _ | refine Below.alloc ?_ (by first | omega | (simp; done) | (simp; omega)) _ | refine Below.drew ?_)))
                have hnw := nw_cells3 ((w7.setCell ⟨tb, i, none⟩ (.int .i64 (z - 1))).setCell ⟨tb, j, none⟩ (.int .i64 (zj + 1))) (.int .i64 1) (.int .i64 (K : Int)) (.int .i64 1) 47
                rw [show ((w7.setCell ⟨tb, i, none⟩ (.int .i64 (z - 1))).setCell ⟨tb, j, none⟩ (.int .i64 (zj + 1))).heap.size = w7.heap.size by simp [World.setCell]] at hnw
                have h1c : ∀ x ∈ [Value.int .i64 1, .int .i64 (K : Int), .int .i64 1], x.oneCell' = true := fun x hx => by
                  simp only [List.mem_cons, List.not_mem_nil, or_false] at hx
                  rcases hx with rfl | rfl | rfl <;> rfl
                have HJ : Hid _ := K9.alloc (.cells #[.int .i64 1, .int .i64 (K : Int), .int .i64 1] 47)
                have hbq : tb + 1 ≤ (((w7.setCell ⟨tb, i, none⟩ (.int .i64 (z - 1))).setCell ⟨tb, j, none⟩ (.int .i64 (zj + 1))).alloc (.cells #[.int .i64 1, .int .i64 (K : Int), .int .i64 1] 47)).heap.size := by
                  have := K9.the.lt
                  rw [World.size_alloc]; omega
                have EE : Hid (esRun C m (ns : Int) n F T false c0 (k + 1) = ⟨d2, e.out ++ [(1, (K : Int), 1)], thSt e.th (i : Int) (j : Int), e.dead⟩) := by
                  show _ = _
                  exact eE
                clear K9 own eE
                go_wp2_with (first
                  | (at_builtin; refine wpList_append_own _ rfl _ _ 26 rfl (tb + 1) 47 j0 _ 3 24 Tryz.underlying26 gi gz0 gz1 gz2 rfl (by decide) _ _ _ rfl ownU ⟨w7.heap.size, 0, none⟩ 1 1 [.int .i64 1, .int .i64 (K : Int), .int .i64 1] rfl rfl hnw h1c (by unfold maxLen; omega) (by omega) hbq ?_; intro v' w6 hown' hgrow hnil; obtain ⟨g6, cap6, rfl⟩ := ow_some hown' (by omega); have tg := ow_grown ownU hgrow))
                go_roundw
                case rel => exact ⟨k + 1, by omega, by go_num, by rw [EE.out], by rw [EE.out]; exact EvI.app (e := ⟨d2, e.out, thSt e.th (i : Int) (j : Int), e.dead⟩) (HJ.out) (1, (K : Int), 1) hown' tg⟩
                case measure => simp [intOf]; omega

            · rw [if_neg (by omega)] at eE
              simp only [Bool.false_eq_true, if_false] at eE
              go_wp2_with fail
              refine (pick_any B p m cap ao C d2 8 _ K7.cur e2 (by omega)).mono ?_
              rintro _ w8 ⟨rfl, c2, t2⟩
              have K8 := K7.pick c2 t2
              simp only at K8
              obtain ⟨y, ey⟩ : ∃ y, pkV C m d2 8 = y := ⟨_, rfl⟩
              rw [ey] at eE ⊢
              clear K7 c2 t2 ey v0 lt
              have v0 : w8.cell? ⟨tb, i, none⟩ = some (.int .i64 (e.th (i : Int))) := K8.the.cell hi0
              rw [ez] at v0
              have lt := K8.the.lt
              by_cases hy : y = 0
              · subst hy
                rw [if_pos rfl] at eE
                have fz0 := K8.the.frozen i
                by_cases ht : fT < 0
                · have hte : fT = -1 := by omega
                  subst hte
                  have K9 := K8.set (i := i) (z - 1) (th := thSt e.th (i : Int) (-1)) (fun a _ => by rw [← ez]; exact thSt_fr e.th i a)
                  simp only at K9
                  clear K8 ez
                  have own : (w8.setCell ⟨tb, i, none⟩ (.int .i64 (z - 1))).ownsRow (tb + 1) 47 3 u7 e.out.length (trC e.out) := K9.own
                  have ownU := ow_on own (show Below (w8.setCell ⟨tb, i, none⟩ (.int .i64 (z - 1))).heap.size (w8.setCell ⟨tb, i, none⟩ (.int .i64 (z - 1))) ((w8.setCell ⟨tb, i, none⟩ (.int .i64 (z - 1))).alloc (.cells #[.int .i64 1, .int .i64 (K : Int), .int .i64 1] 47)) from (by repeat (first | exact Below.refl _ _ | assumption | refine below_alloc ?_ _ | refine Below.setCell ?_ (by first | omega | (simp; done) | (simp; omega)) _ | refine Below.alloc ?_ (by first | omega | (simp; done) | (simp; omega)) _ | refine Below.drew ?_)))
                  have hnw := nw_cells3 (w8.setCell ⟨tb, i, none⟩ (.int .i64 (z - 1))) (.int .i64 1) (.int .i64 (K : Int)) (.int .i64 1) 47
                  rw [show (w8.setCell ⟨tb, i, none⟩ (.int .i64 (z - 1))).heap.size = w8.heap.size by simp [World.setCell]] at hnw
                  have h1c : ∀ x ∈ [Value.int .i64 1, .int .i64 (K : Int), .int .i64 1], x.oneCell' = true := fun x hx => by
                    simp only [List.mem_cons, List.not_mem_nil, or_false] at hx
                    rcases hx with rfl | rfl | rfl <;> rfl
                  have HJ : Hid _ := K9.alloc (.cells #[.int .i64 1, .int .i64 (K : Int), .int .i64 1] 47)
                  have hbq : tb + 1 ≤ ((w8.setCell ⟨tb, i, none⟩ (.int .i64 (z - 1))).alloc (.cells #[.int .i64 1, .int .i64 (K : Int), .int .i64 1] 47)).heap.size := by
                    have := K9.the.lt
                    rw [World.size_alloc]; omega
                  have EE : Hid (esRun C m (ns : Int) n F T false c0 (k + 1) = ⟨(pkC C m d2 8), e.out ++ [(1, (K : Int), 1)], thSt e.th (i : Int) (-1), e.dead⟩) := by
                    show _ = _
                    exact eE
                  clear K9 own eE
                  go_wp2_with (first
                    | (at_builtin; refine wpList_append_own _ rfl _ _ 26 rfl (tb + 1) 47 j0 _ 3 24 Tryz.underlying26 gi gz0 gz1 gz2 rfl (by decide) _ _ _ rfl ownU ⟨w8.heap.size, 0, none⟩ 1 1 [.int .i64 1, .int .i64 (K : Int), .int .i64 1] rfl rfl hnw h1c (by unfold maxLen; omega) (by omega) hbq ?_; intro v' w6 hown' hgrow hnil; obtain ⟨g6, cap6, rfl⟩ := ow_some hown' (by omega); have tg := ow_grown ownU hgrow))
                  go_roundw
                  case rel => exact ⟨k + 1, by omega, by go_num, by rw [EE.out], by rw [EE.out]; exact EvI.app (e := ⟨(pkC C m d2 8), e.out, thSt e.th (i : Int) (-1), e.dead⟩) (HJ.out) (1, (K : Int), 1) hown' tg⟩
                  case measure => simp [intOf]; omega
                · obtain ⟨j, ej⟩ : ∃ j : Nat, fT = j := ⟨fT.toNat, by omega⟩
                  subst ej
                  have hj : j < ns := by omega
                  have hij : ¬ i = j := by omega
                  have hji : ¬ j = i := by omega
                  have v1 : w8.cell? ⟨tb, j, none⟩ = some (.int .i64 (e.th (j : Int))) := K8.the.cell hj
                  have fz1 := K8.the.frozen j
                  have o3j := o3 (j : Int)
                  obtain ⟨zj, ezj⟩ : ∃ zj, e.th (j : Int) = zj := ⟨_, rfl⟩
                  have K9 := (K8.set (i := i) (z - 1) (th := fun s => if s = (i : Int) then z - 1 else e.th s) (fun a _ => thSt_mid e.th i a z)).set (i := j) (zj + 1) (th := thSt e.th (i : Int) (j : Int)) (fun a _ => by rw [← ez, ← ezj]; exact thSt_both e.th hij a)
                  simp only at K9
                  rw [ezj] at v1 o3j
                  clear K8 ez ezj
                  have own : ((w8.setCell ⟨tb, i, none⟩ (.int .i64 (z - 1))).setCell ⟨tb, j, none⟩ (.int .i64 (zj + 1))).ownsRow (tb + 1) 47 3 u7 e.out.length (trC e.out) := K9.own
                  have ownU := ow_on own (show Below ((w8.setCell ⟨tb, i, none⟩ (.int .i64 (z - 1))).setCell ⟨tb, j, none⟩ (.int .i64 (zj + 1))).heap.size ((w8.setCell ⟨tb, i, none⟩ (.int .i64 (z - 1))).setCell ⟨tb, j, none⟩ (.int .i64 (zj + 1))) (((w8.setCell ⟨tb, i, none⟩ (.int .i64 (z - 1))).setCell ⟨tb, j, none⟩ (.int .i64 (zj + 1))).alloc (.cells #[.int .i64 1, .int .i64 (K : Int), .int .i64 1] 47)) from (by repeat (first | exact Below.refl _ _ | assumption | refine below_alloc ?_ _ | refine Below.setCell ?_ (by first | omega | (simp; done) | (simp; omega)) _ | refine Below.alloc ?_ (by first | omega | (simp; done) | (simp; omega)) _ | refine Below.drew ?_)))
                  have hnw := nw_cells3 ((w8.setCell ⟨tb, i, none⟩ (.int .i64 (z - 1))).setCell ⟨tb, j, none⟩ (.int .i64 (zj + 1))) (.int .i64 1) (.int .i64 (K : Int)) (.int .i64 1) 47
                  rw [show ((w8.setCell ⟨tb, i, none⟩ (.int .i64 (z - 1))).setCell ⟨tb, j, none⟩ (.int .i64 (zj + 1))).heap.size = w8.heap.size by simp [World.setCell]] at hnw
                  have h1c : ∀ x ∈ [Value.int .i64 1, .int .i64 (K : Int), .int .i64 1], x.oneCell' = true := fun x hx => by
                    simp only [List.mem_cons, List.not_mem_nil, or_false] at hx
                    rcases hx with rfl | rfl | rfl <;> rfl
                  have HJ : Hid _ := K9.alloc (.cells #[.int .i64 1, .int .i64 (K : Int), .int .i64 1] 47)
                  have hbq : tb + 1 ≤ (((w8.setCell ⟨tb, i, none⟩ (.int .i64 (z - 1))).setCell ⟨tb, j, none⟩ (.int .i64 (zj + 1))).alloc (.cells #[.int .i64 1, .int .i64 (K : Int), .int .i64 1] 47)).heap.size := by
                    have := K9.the.lt
                    rw [World.size_alloc]; omega
                  have EE : Hid (esRun C m (ns : Int) n F T false c0 (k + 1) = ⟨(pkC C m d2 8), e.out ++ [(1, (K : Int), 1)], thSt e.th (i : Int) (j : Int), e.dead⟩) := by
                    show _ = _
                    exact eE
                  clear K9 own eE
                  go_wp2_with (first
                    | (at_builtin; refine wpList_append_own _ rfl _ _ 26 rfl (tb + 1) 47 j0 _ 3 24 Tryz.underlying26 gi gz0 gz1 gz2 rfl (by decide) _ _ _ rfl ownU ⟨w8.heap.size, 0, none⟩ 1 1 [.int .i64 1, .int .i64 (K : Int), .int .i64 1] rfl rfl hnw h1c (by unfold maxLen; omega) (by omega) hbq ?_; intro v' w6 hown' hgrow hnil; obtain ⟨g6, cap6, rfl⟩ := ow_some hown' (by omega); have tg := ow_grown ownU hgrow))
                  go_roundw
                  case rel => exact ⟨k + 1, by omega, by go_num, by rw [EE.out], by rw [EE.out]; exact EvI.app (e := ⟨(pkC C m d2 8), e.out, thSt e.th (i : Int) (j : Int), e.dead⟩) (HJ.out) (1, (K : Int), 1) hown' tg⟩
                  case measure => simp [intOf]; omega

              · rw [if_neg hy] at eE
                have hy' : (y == 0) = false := by simp [hy]
                have EE : Hid (esRun C m (ns : Int) n F T false c0 (k + 1) = ⟨pkC C m d2 8, e.out, e.th, e.dead⟩) := by
                  show _ = _
                  exact eE
                have HJ : Hid _ := K8
                clear K8 eE
                go_wp2
                go_roundw
                case rel => exact ⟨k + 1, by omega, by go_num, by rw [EE.out], by rw [EE.out]; exact HJ.out⟩
                case measure => simp [intOf]; omega
      · as_aux_lemma =>
          rw [show (1 - 2 * 1 : Int) = -1 from rfl] at eE
          rw [show esFr F T (K : Int) (-1) = fT by simp [esFr, eT], show esTo F T (K : Int) (-1) = fF by simp [esTo, eF]] at eE
          clear eF eT
          by_cases hf : fT < 0
          · have hfe : fT = -1 := by omega
            subst hfe
            rw [if_pos (.inl (by omega))] at eE
            obtain ⟨j, ej⟩ : ∃ j : Nat, fF = j := ⟨fF.toNat, by omega⟩
            subst ej
            have hj : j < ns := by omega
            have v1 : w7.cell? ⟨tb, j, none⟩ = some (.int .i64 (e.th (j : Int))) := K7.the.cell hj
            have lt := K7.the.lt
            have fz1 := K7.the.frozen j
            have o3j := o3 (j : Int)
            have K9 := K7.set (i := j) (e.th (j : Int) + 1) (th := thSt e.th (-1) (j : Int)) (fun a _ => thSt_to e.th j a)
            simp only at K9
            obtain ⟨zj, ezj⟩ : ∃ zj, e.th (j : Int) = zj := ⟨_, rfl⟩
            rw [ezj] at v1 o3j K9
            clear K7 ezj
            have own : (w7.setCell ⟨tb, j, none⟩ (.int .i64 (zj + 1))).ownsRow (tb + 1) 47 3 u7 e.out.length (trC e.out) := K9.own
            have ownU := ow_on own (show Below (w7.setCell ⟨tb, j, none⟩ (.int .i64 (zj + 1))).heap.size (w7.setCell ⟨tb, j, none⟩ (.int .i64 (zj + 1))) ((w7.setCell ⟨tb, j, none⟩ (.int .i64 (zj + 1))).alloc (.cells #[.int .i64 1, .int .i64 (K : Int), .int .i64 (-1)] 47)) from (by repeat (first | exact Below.refl _ _ | assumption | refine below_alloc ?_ _ | refine Below.setCell ?_ (by first | omega | (simp; done) | (simp; omega)) _ | refine Below.alloc ?_ (by first | omega | (simp; done) | (simp; omega)) _ | refine Below.drew ?_)))
            have hnw := nw_cells3 (w7.setCell ⟨tb, j, none⟩ (.int .i64 (zj + 1))) (.int .i64 1) (.int .i64 (K : Int)) (.int .i64 (-1)) 47
            rw [show (w7.setCell ⟨tb, j, none⟩ (.int .i64 (zj + 1))).heap.size = w7.heap.size by simp [World.setCell]] at hnw
            have h1c : ∀ x ∈ [Value.int .i64 1, .int .i64 (K : Int), .int .i64 (-1)], x.oneCell' = true := fun x hx => by
              simp only [List.mem_cons, List.not_mem_nil, or_false] at hx
              rcases hx with rfl | rfl | rfl <;> rfl
            have HJ : Hid _ := K9.alloc (.cells #[.int .i64 1, .int .i64 (K : Int), .int .i64 (-1)] 47)
            have hbq : tb + 1 ≤ ((w7.setCell ⟨tb, j, none⟩ (.int .i64 (zj + 1))).alloc (.cells #[.int .i64 1, .int .i64 (K : Int), .int .i64 (-1)] 47)).heap.size := by
              have := K9.the.lt
              rw [World.size_alloc]; omega
            have EE : Hid (esRun C m (ns : Int) n F T false c0 (k + 1) = ⟨d2, e.out ++ [(1, (K : Int), (-1))], thSt e.th (-1) (j : Int), e.dead⟩) := by
              show _ = _
              exact eE
            clear K9 own eE
            go_wp2_with (first
              | (at_builtin; refine wpList_append_own _ rfl _ _ 26 rfl (tb + 1) 47 j0 _ 3 24 Tryz.underlying26 gi gz0 gz1 gz2 rfl (by decide) _ _ _ rfl ownU ⟨w7.heap.size, 0, none⟩ 1 1 [.int .i64 1, .int .i64 (K : Int), .int .i64 (-1)] rfl rfl hnw h1c (by unfold maxLen; omega) (by omega) hbq ?_; intro v' w6 hown' hgrow hnil; obtain ⟨g6, cap6, rfl⟩ := ow_some hown' (by omega); have tg := ow_grown ownU hgrow))
            go_roundw
            case rel => exact ⟨k + 1, by omega, by go_num, by rw [EE.out], by rw [EE.out]; exact EvI.app (e := ⟨d2, e.out, thSt e.th (-1) (j : Int), e.dead⟩) (HJ.out) (1, (K : Int), (-1)) hown' tg⟩
            case measure => simp [intOf]; omega
          · obtain ⟨i, ei⟩ : ∃ i : Nat, fT = i := ⟨fT.toNat, by omega⟩
            subst ei
            have hi0 : i < ns := by omega
            have v0 : w7.cell? ⟨tb, i, none⟩ = some (.int .i64 (e.th (i : Int))) := K7.the.cell hi0
            have lt := K7.the.lt
            have o3i := o3 (i : Int)
            obtain ⟨z, ez⟩ : ∃ z, e.th (i : Int) = z := ⟨_, rfl⟩
            rw [ez] at v0 o3i eE
            by_cases hz : 0 < z
            · rw [if_pos (.inr hz)] at eE
              have fz0 := K7.the.frozen i
              by_cases ht : fF < 0
              · have hte : fF = -1 := by omega
                subst hte
                have K9 := K7.set (i := i) (z - 1) (th := thSt e.th (i : Int) (-1)) (fun a _ => by rw [← ez]; exact thSt_fr e.th i a)
                simp only at K9
                clear K7 ez
                have own : (w7.setCell ⟨tb, i, none⟩ (.int .i64 (z - 1))).ownsRow (tb + 1) 47 3 u7 e.out.length (trC e.out) := K9.own
                have ownU := ow_on own (show Below (w7.setCell ⟨tb, i, none⟩ (.int .i64 (z - 1))).heap.size (w7.setCell ⟨tb, i, none⟩ (.int .i64 (z - 1))) ((w7.setCell ⟨tb, i, none⟩ (.int .i64 (z - 1))).alloc (.cells #[.int .i64 1, .int .i64 (K : Int), .int .i64 (-1)] 47)) from (by repeat (first | exact Below.refl _ _ | assumption | refine below_alloc ?_ _ | refine Below.setCell ?_ (by first | omega | (simp; done) | (simp; omega)) _ | refine Below.alloc ?_ (by first | omega | (simp; done) | (simp; omega)) _ | refine Below.drew ?_)))
                have hnw := nw_cells3 (w7.setCell ⟨tb, i, none⟩ (.int .i64 (z - 1))) (.int .i64 1) (.int .i64 (K : Int)) (.int .i64 (-1)) 47
                rw [show (w7.setCell ⟨tb, i, none⟩ (.int .i64 (z - 1))).heap.size = w7.heap.size by simp [World.setCell]] at hnw
                have h1c : ∀ x ∈ [Value.int .i64 1, .int .i64 (K : Int), .int .i64 (-1)], x.oneCell' = true := fun x hx => by
                  simp only [List.mem_cons, List.not_mem_nil, or_false] at hx
                  rcases hx with rfl | rfl | rfl <;> rfl
                have HJ : Hid _ := K9.alloc (.cells #[.int .i64 1, .int .i64 (K : Int), .int .i64 (-1)] 47)
                have hbq : tb + 1 ≤ ((w7.setCell ⟨tb, i, none⟩ (.int .i64 (z - 1))).alloc (.cells #[.int .i64 1, .int .i64 (K : Int), .int .i64 (-1)] 47)).heap.size := by
                  have := K9.the.lt
                  rw [World.size_alloc]; omega
                have EE : Hid (esRun C m (ns : Int) n F T false c0 (k + 1) = ⟨d2, e.out ++ [(1, (K : Int), (-1))], thSt e.th (i : Int) (-1), e.dead⟩) := by
                  show _ = _
                  exact eE
                clear K9 own eE
                go_wp2_with (first
                  | (at_builtin; refine wpList_append_own _ rfl _ _ 26 rfl (tb + 1) 47 j0 _ 3 24 Tryz.underlying26 gi gz0 gz1 gz2 rfl (by decide) _ _ _ rfl ownU ⟨w7.heap.size, 0, none⟩ 1 1 [.int .i64 1, .int .i64 (K : Int), .int .i64 (-1)] rfl rfl hnw h1c (by unfold maxLen; omega) (by omega) hbq ?_; intro v' w6 hown' hgrow hnil; obtain ⟨g6, cap6, rfl⟩ := ow_some hown' (by omega); have tg := ow_grown ownU hgrow))
                go_roundw
                case rel => exact ⟨k + 1, by omega, by go_num, by rw [EE.out], by rw [EE.out]; exact EvI.app (e := ⟨d2, e.out, thSt e.th (i : Int) (-1), e.dead⟩) (HJ.out) (1, (K : Int), (-1)) hown' tg⟩
                case measure => simp [intOf]; omega
              · obtain ⟨j, ej⟩ : ∃ j : Nat, fF = j := ⟨fF.toNat, by omega⟩
                subst ej
                have hj : j < ns := by omega
                have hij : ¬ i = j := by omega
                have hji : ¬ j = i := by omega
                have v1 : w7.cell? ⟨tb, j, none⟩ = some (.int .i64 (e.th (j : Int))) := K7.the.cell hj
                have fz1 := K7.the.frozen j
                have o3j := o3 (j : Int)
                obtain ⟨zj, ezj⟩ : ∃ zj, e.th (j : Int) = zj := ⟨_, rfl⟩
                have K9 := (K7.set (i := i) (z - 1) (th := fun s => if s = (i : Int) then z - 1 else e.th s) (fun a _ => thSt_mid e.th i a z)).set (i := j) (zj + 1) (th := thSt e.th (i : Int) (j : Int)) (fun a _ => by rw [← ez, ← ezj]; exact thSt_both e.th hij a)
                simp only at K9
                rw [ezj] at v1 o3j
                clear K7 ez ezj
                have own : ((w7.setCell ⟨tb, i, none⟩ (.int .i64 (z - 1))).setCell ⟨tb, j, none⟩ (.int .i64 (zj + 1))).ownsRow (tb + 1) 47 3 u7 e.out.length (trC e.out) := K9.own
                have ownU := ow_on own (show Below ((w7.setCell ⟨tb, i, none⟩ (.int .i64 (z - 1))).setCell ⟨tb, j, none⟩ (.int .i64 (zj + 1))).heap.size ((w7.setCell ⟨tb, i, none⟩ (.int .i64 (z - 1))).setCell ⟨tb, j, none⟩ (.int .i64 (zj + 1))) (((w7.setCell ⟨tb, i, none⟩ (.int .i64 (z - 1))).setCell ⟨tb, j, none⟩ (.int .i64 (zj + 1))).alloc (.cells #[.int .i64 1, .int .i64 (K : Int), .int .i64 (-1)] 47)) from (by repeat (first | exact Below.refl _ _ | assumption | refine below_alloc ?_ _ | refine Below.setCell ?_ (by first | omega | (simp; done) | (simp; omega)) _ | refine Below.alloc ?_ (by first | omega | (simp; done) | (simp; omega)) _ | refine Below.drew ?_)))
                have hnw := nw_cells3 ((w7.setCell ⟨tb, i, none⟩ (.int .i64 (z - 1))).setCell ⟨tb, j, none⟩ (.int .i64 (zj + 1))) (.int .i64 1) (.int .i64 (K : Int)) (.int .i64 (-1)) 47
                rw [show ((w7.setCell ⟨tb, i, none⟩ (.int .i64 (z - 1))).setCell ⟨tb, j, none⟩ (.int .i64 (zj + 1))).heap.size = w7.heap.size by simp [World.setCell]] at hnw
                have h1c : ∀ x ∈ [Value.int .i64 1, .int .i64 (K : Int), .int .i64 (-1)], x.oneCell' = true := fun x hx => by
                  simp only [List.mem_cons, List.not_mem_nil, or_false] at hx
                  rcases hx with rfl | rfl | rfl <;> rfl
                have HJ : Hid _ := K9.alloc (.cells #[.int .i64 1, .int .i64 (K : Int), .int .i64 (-1)] 47)
                have hbq : tb + 1 ≤ (((w7.setCell ⟨tb, i, none⟩ (.int .i64 (z - 1))).setCell ⟨tb, j, none⟩ (.int .i64 (zj + 1))).alloc (.cells #[.int .i64 1, .int .i64 (K : Int), .int .i64 (-1)] 47)).heap.size := by
                  have := K9.the.lt
                  rw [World.size_alloc]; omega
                have EE : Hid (esRun C m (ns : Int) n F T false c0 (k + 1) = ⟨d2, e.out ++ [(1, (K : Int), (-1))], thSt e.th (i : Int) (j : Int), e.dead⟩) := by
                  show _ = _
                  exact eE
                clear K9 own eE
                go_wp2_with (first
                  | (at_builtin; refine wpList_append_own _ rfl _ _ 26 rfl (tb + 1) 47 j0 _ 3 24 Tryz.underlying26 gi gz0 gz1 gz2 rfl (by decide) _ _ _ rfl ownU ⟨w7.heap.size, 0, none⟩ 1 1 [.int .i64 1, .int .i64 (K : Int), .int .i64 (-1)] rfl rfl hnw h1c (by unfold maxLen; omega) (by omega) hbq ?_; intro v' w6 hown' hgrow hnil; obtain ⟨g6, cap6, rfl⟩ := ow_some hown' (by omega); have tg := ow_grown ownU hgrow))
                go_roundw
                case rel => exact ⟨k + 1, by omega, by go_num, by rw [EE.out], by rw [EE.out]; exact EvI.app (e := ⟨d2, e.out, thSt e.th (i : Int) (j : Int), e.dead⟩) (HJ.out) (1, (K : Int), (-1)) hown' tg⟩
                case measure => simp [intOf]; omega

            · rw [if_neg (by omega)] at eE
              simp only [Bool.false_eq_true, if_false] at eE
              go_wp2_with fail
              refine (pick_any B p m cap ao C d2 8 _ K7.cur e2 (by omega)).mono ?_
              rintro _ w8 ⟨rfl, c2, t2⟩
              have K8 := K7.pick c2 t2
              simp only at K8
              obtain ⟨y, ey⟩ : ∃ y, pkV C m d2 8 = y := ⟨_, rfl⟩
              rw [ey] at eE ⊢
              clear K7 c2 t2 ey v0 lt
              have v0 : w8.cell? ⟨tb, i, none⟩ = some (.int .i64 (e.th (i : Int))) := K8.the.cell hi0
              rw [ez] at v0
              have lt := K8.the.lt
              by_cases hy : y = 0
              · subst hy
                rw [if_pos rfl] at eE
                have fz0 := K8.the.frozen i
                by_cases ht : fF < 0
                · have hte : fF = -1 := by omega
                  subst hte
                  have K9 := K8.set (i := i) (z - 1) (th := thSt e.th (i : Int) (-1)) (fun a _ => by rw [← ez]; exact thSt_fr e.th i a)
                  simp only at K9
                  clear K8 ez
                  have own : (w8.setCell ⟨tb, i, none⟩ (.int .i64 (z - 1))).ownsRow (tb + 1) 47 3 u7 e.out.length (trC e.out) := K9.own
                  have ownU := ow_on own (show Below (w8.setCell ⟨tb, i, none⟩ (.int .i64 (z - 1))).heap.size (w8.setCell ⟨tb, i, none⟩ (.int .i64 (z - 1))) ((w8.setCell ⟨tb, i, none⟩ (.int .i64 (z - 1))).alloc (.cells #[.int .i64 1, .int .i64 (K : Int), .int .i64 (-1)] 47)) from (by repeat (first | exact Below.refl _ _ | assumption | refine below_alloc ?_ _ | refine Below.setCell ?_ (by first | omega | (simp; done) | (simp; omega)) _ | refine Below.alloc ?_ (by first | omega | (simp; done) | (simp; omega)) _ | refine Below.drew ?_)))
                  have hnw := nw_cells3 (w8.setCell ⟨tb, i, none⟩ (.int .i64 (z - 1))) (.int .i64 1) (.int .i64 (K : Int)) (.int .i64 (-1)) 47
                  rw [show (w8.setCell ⟨tb, i, none⟩ (.int .i64 (z - 1))).heap.size = w8.heap.size by simp [World.setCell]] at hnw
                  have h1c : ∀ x ∈ [Value.int .i64 1, .int .i64 (K : Int), .int .i64 (-1)], x.oneCell' = true := fun x hx => by
                    simp only [List.mem_cons, List.not_mem_nil, or_false] at hx
                    rcases hx with rfl | rfl | rfl <;> rfl
                  have HJ : Hid _ := K9.alloc (.cells #[.int .i64 1, .int .i64 (K : Int), .int .i64 (-1)] 47)
                  have hbq : tb + 1 ≤ ((w8.setCell ⟨tb, i, none⟩ (.int .i64 (z - 1))).alloc (.cells #[.int .i64 1, .int .i64 (K : Int), .int .i64 (-1)] 47)).heap.size := by
                    have := K9.the.lt
                    rw [World.size_alloc]; omega
                  have EE : Hid (esRun C m (ns : Int) n F T false c0 (k + 1) = ⟨(pkC C m d2 8), e.out ++ [(1, (K : Int), (-1))], thSt e.th (i : Int) (-1), e.dead⟩) := by
                    show _ = _
                    exact eE
                  clear K9 own eE
                  go_wp2_with (first
                    | (at_builtin; refine wpList_append_own _ rfl _ _ 26 rfl (tb + 1) 47 j0 _ 3 24 Tryz.underlying26 gi gz0 gz1 gz2 rfl (by decide) _ _ _ rfl ownU ⟨w8.heap.size, 0, none⟩ 1 1 [.int .i64 1, .int .i64 (K : Int), .int .i64 (-1)] rfl rfl hnw h1c (by unfold maxLen; omega) (by omega) hbq ?_; intro v' w6 hown' hgrow hnil; obtain ⟨g6, cap6, rfl⟩ := ow_some hown' (by omega); have tg := ow_grown ownU hgrow))
                  go_roundw
                  case rel => exact ⟨k + 1, by omega, by go_num, by rw [EE.out], by rw [EE.out]; exact EvI.app (e := ⟨(pkC C m d2 8), e.out, thSt e.th (i : Int) (-1), e.dead⟩) (HJ.out) (1, (K : Int), (-1)) hown' tg⟩
                  case measure => simp [intOf]; omega
                · obtain ⟨j, ej⟩ : ∃ j : Nat, fF = j := ⟨fF.toNat, by omega⟩
                  subst ej
                  have hj : j < ns := by omega
                  have hij : ¬ i = j := by omega
                  have hji : ¬ j = i := by omega
                  have v1 : w8.cell? ⟨tb, j, none⟩ = some (.int .i64 (e.th (j : Int))) := K8.the.cell hj
                  have fz1 := K8.the.frozen j
                  have o3j := o3 (j : Int)
                  obtain ⟨zj, ezj⟩ : ∃ zj, e.th (j : Int) = zj := ⟨_, rfl⟩
                  have K9 := (K8.set (i := i) (z - 1) (th := fun s => if s = (i : Int) then z - 1 else e.th s) (fun a _ => thSt_mid e.th i a z)).set (i := j) (zj + 1) (th := thSt e.th (i : Int) (j : Int)) (fun a _ => by rw [← ez, ← ezj]; exact thSt_both e.th hij a)
                  simp only at K9
                  rw [ezj] at v1 o3j
                  clear K8 ez ezj
                  have own : ((w8.setCell ⟨tb, i, none⟩ (.int .i64 (z - 1))).setCell ⟨tb, j, none⟩ (.int .i64 (zj + 1))).ownsRow (tb + 1) 47 3 u7 e.out.length (trC e.out) := K9.own
                  have ownU := ow_on own (show Below ((w8.setCell ⟨tb, i, none⟩ (.int .i64 (z - 1))).setCell ⟨tb, j, none⟩ (.int .i64 (zj + 1))).heap.size ((w8.setCell ⟨tb, i, none⟩ (.int .i64 (z - 1))).setCell ⟨tb, j, none⟩ (.int .i64 (zj + 1))) (((w8.setCell ⟨tb, i, none⟩ (.int .i64 (z - 1))).setCell ⟨tb, j, none⟩ (.int .i64 (zj + 1))).alloc (.cells #[.int .i64 1, .int .i64 (K : Int), .int .i64 (-1)] 47)) from (by repeat (first | exact Below.refl _ _ | assumption | refine below_alloc ?_ _ | refine Below.setCell ?_ (by first | omega | (simp; done) | (simp; omega)) _ | refine Below.alloc ?_ (by first | omega | (simp; done) | (simp; omega)) _ | refine Below.drew ?_)))
                  have hnw := nw_cells3 ((w8.setCell ⟨tb, i, none⟩ (.int .i64 (z - 1))).setCell ⟨tb, j, none⟩ (.int .i64 (zj + 1))) (.int .i64 1) (.int .i64 (K : Int)) (.int .i64 (-1)) 47
                  rw [show ((w8.setCell ⟨tb, i, none⟩ (.int .i64 (z - 1))).setCell ⟨tb, j, none⟩ (.int .i64 (zj + 1))).heap.size = w8.heap.size by simp [World.setCell]] at hnw
                  have h1c : ∀ x ∈ [Value.int .i64 1, .int .i64 (K : Int), .int .i64 (-1)], x.oneCell' = true := fun x hx => by
                    simp only [List.mem_cons, List.not_mem_nil, or_false] at hx
                    rcases hx with rfl | rfl | rfl <;> rfl
                  have HJ : Hid _ := K9.alloc (.cells #[.int .i64 1, .int .i64 (K : Int), .int .i64 (-1)] 47)
                  have hbq : tb + 1 ≤ (((w8.setCell ⟨tb, i, none⟩ (.int .i64 (z - 1))).setCell ⟨tb, j, none⟩ (.int .i64 (zj + 1))).alloc (.cells #[.int .i64 1, .int .i64 (K : Int), .int .i64 (-1)] 47)).heap.size := by
                    have := K9.the.lt
                    rw [World.size_alloc]; omega
                  have EE : Hid (esRun C m (ns : Int) n F T false c0 (k + 1) = ⟨(pkC C m d2 8), e.out ++ [(1, (K : Int), (-1))], thSt e.th (i : Int) (j : Int), e.dead⟩) := by
                    show _ = _
                    exact eE
                  clear K9 own eE
                  go_wp2_with (first
                    | (at_builtin; refine wpList_append_own _ rfl _ _ 26 rfl (tb + 1) 47 j0 _ 3 24 Tryz.underlying26 gi gz0 gz1 gz2 rfl (by decide) _ _ _ rfl ownU ⟨w8.heap.size, 0, none⟩ 1 1 [.int .i64 1, .int .i64 (K : Int), .int .i64 (-1)] rfl rfl hnw h1c (by unfold maxLen; omega) (by omega) hbq ?_; intro v' w6 hown' hgrow hnil; obtain ⟨g6, cap6, rfl⟩ := ow_some hown' (by omega); have tg := ow_grown ownU hgrow))
                  go_roundw
                  case rel => exact ⟨k + 1, by omega, by go_num, by rw [EE.out], by rw [EE.out]; exact EvI.app (e := ⟨(pkC C m d2 8), e.out, thSt e.th (i : Int) (j : Int), e.dead⟩) (HJ.out) (1, (K : Int), (-1)) hown' tg⟩
                  case measure => simp [intOf]; omega

              · rw [if_neg hy] at eE
                have hy' : (y == 0) = false := by simp [hy]
                have EE : Hid (esRun C m (ns : Int) n F T false c0 (k + 1) = ⟨pkC C m d2 8, e.out, e.th, e.dead⟩) := by
                  show _ = _
                  exact eE
                have HJ : Hid _ := K8
                clear K8 eE
                go_wp2
                go_roundw
                case rel => exact ⟨k + 1, by omega, by go_num, by rw [EE.out], by rw [EE.out]; exact HJ.out⟩
                case measure => simp [intOf]; omega
    · have hkN : k = N := by omega
      subst hkN
      have hi1 : ¬ (0 : Int) < 0 := by omega
      have own : _ := I.own
      rw [← EL.out] at own
      have sl := ow_slf own (fun i hi j hj => trC_get L i j hi hj)
      have hcp := own_cap own
      have ht := I.tur
      have hrq := I.rq
      clear I own
      go_wp2
      go_ret
      exact ⟨_, rfl, sl.wide (by omega) (Nat.le_refl _), ht, hcp⟩

end Go.Proofs.YtlpopfhaephfaaaGreatDoor
