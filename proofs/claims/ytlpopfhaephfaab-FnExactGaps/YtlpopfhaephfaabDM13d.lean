import Derived.Test.YtlpopfhaephfaabDM11
import Derived.Test.YtlpopfhaephfaabDM12
import Derived.Deep.CutBlock
namespace Go.Proofs.Ytlpopfhaephfaab
open Go.RowKit Go.Maps Go.Sort

set_option maxRecDepth 100000 in
set_option maxHeartbeats 2000000 in
theorem specDo_d (S op f d : Int) (g n lo hi : Nat) (F T : Nat → Int) (v : Value) (ns : Nat) (X : Nat → Sec) (D : Nat → Bool) (w : World) (hrow : Row w g 88 2 n (two F T)) (hs : StF w lo hi v true ns n X D) (hst : stOk S n F T true ns n X D = true) (hev : evOk S n F T op f d = true) (hop : op = 5) :
    Calls Try.prog 16 #[.agg #[.int .i64 S, .slice (some ⟨g, 0, none⟩) n n], v, .agg #[.int .i64 op, .int .i64 f, .int .i64 d]] w fun e w' => ∃ u, e = .returned u ∧ DoR w w' u (bhC S n F T X D op f d) true ns n (nxtX S n F T X D op f d) (bhD S n D op f d) ∧ Below w.heap.size w w' := by
  have HOP : Hid (op = 5) := hop
  clear hop
  obtain ⟨hl, _, hS, _, hsec⟩ := stOk_parts hst
  obtain ⟨r1, r2, r3⟩ := lok_range hl
  have hc : ∀ k, k < ns → -1000000 ≤ (X k).count ∧ (X k).count ≤ 1000000 := fun k hk => secOk_count (hsec k hk)
  have hp : 0 < ns := by omega
  obtain ⟨_, _, rfl, ⟨a1, c1, rfl, hX0⟩, ⟨a2, c2, rfl, hD0⟩⟩ := id hs
  obtain ⟨_, _, e, hX, hD⟩ := id hs
  simp only [Value.agg.injEq, Array.mk.injEq, List.cons.injEq, and_true, true_and] at e
  obtain ⟨rfl, rfl⟩ := e
  obtain ⟨gs, rfl⟩ := hX.addr hp
  have hL : Lst w lo hi (.slice (some ⟨gs, 0, none⟩) ns c1) ns X (.slice a2 n c2) n D := ⟨hX, hD⟩
  obtain ⟨V, eV⟩ : ∃ V, (((w.alloc (.cells #[.int .i64 S, .slice (some ⟨g, 0, none⟩) n n] 31)).alloc (.cells #[.bool true, .slice (some ⟨gs, 0, none⟩) ns c1, .slice a2 n c2] 44)).alloc (.cells #[.int .i64 op, .int .i64 f, .int .i64 d] 33)).alloc (.cells #[.int .i64 0, .bool false, .slice none 0 0, .slice none 0 0] 46) = V := ⟨_, rfl⟩
  have sV : V.heap.size = w.heap.size + 1 + 1 + 1 + 1 := by rw [← eV]; simp
  have bV : Below w.heap.size w V := by rw [← eV]; exact (by repeat (first | exact Below.refl _ _ | assumption | refine below_alloc ?_ _ | refine Below.setCell ?_ (by first | omega | (simp; done) | (simp; omega)) _ | refine Below.alloc ?_ (by first | omega | (simp; done) | (simp; omega)) _ | refine Below.drew ?_))
  have bL : Blk V w.heap.size 31 2 (fun i => if i = 0 then .int .i64 S else .slice (some ⟨g, 0, none⟩) n n) := by
    rw [← eV]
    exact (((Blk.new w #[.int .i64 S, .slice (some ⟨g, 0, none⟩) n n] 31 _ (fun i hi => by simp at hi; match i, hi with | 0, _ => rfl | 1, _ => rfl)).alloc _).alloc _).alloc _
  have bS : Box3 V (w.heap.size + 1) 44 (.bool true) (.slice (some ⟨gs, 0, none⟩) ns c1) (.slice a2 n c2) := by
    rw [← eV]
    have := ((Box3.lay (w.alloc (.cells #[.int .i64 S, .slice (some ⟨g, 0, none⟩) n n] 31)) (.bool true) (.slice (some ⟨gs, 0, none⟩) ns c1) (.slice a2 n c2) 44).alloc (.cells #[.int .i64 op, .int .i64 f, .int .i64 d] 33)).alloc (.cells #[.int .i64 0, .bool false, .slice none 0 0, .slice none 0 0] 46)
    simp only [World.size_alloc] at this
    exact this
  have bE : Box3 V (w.heap.size + 1 + 1) 33 (.int .i64 op) (.int .i64 f) (.int .i64 d) := by
    rw [← eV]
    have := (Box3.lay ((w.alloc (.cells #[.int .i64 S, .slice (some ⟨g, 0, none⟩) n n] 31)).alloc (.cells #[.bool true, .slice (some ⟨gs, 0, none⟩) ns c1, .slice a2 n c2] 44)) (.int .i64 op) (.int .i64 f) (.int .i64 d) 33).alloc (.cells #[.int .i64 0, .bool false, .slice none 0 0, .slice none 0 0] 46)
    simp only [World.size_alloc] at this
    exact this
  have y0 := bL.cell (i := 0) (by omega)
  have y1 := bL.cell (i := 1) (by omega)
  obtain ⟨y2, y3, y4⟩ := bS.cells
  obtain ⟨y5, y6, y7⟩ := bE.cells
  have x3 : Blk V (w.heap.size + 1 + 1 + 1) 46 4 (fun i => #[.int .i64 0, .bool false, .slice none 0 0, .slice none 0 0][i]!) := by
    rw [← eV]
    have := Blk.new (((w.alloc (.cells #[.int .i64 S, .slice (some ⟨g, 0, none⟩) n n] 31)).alloc (.cells #[.bool true, .slice (some ⟨gs, 0, none⟩) ns c1, .slice a2 n c2] 44)).alloc (.cells #[.int .i64 op, .int .i64 f, .int .i64 d] 33)) #[.int .i64 0, .bool false, .slice none 0 0, .slice none 0 0] 46 (fun i => #[.int .i64 0, .bool false, .slice none 0 0, .slice none 0 0][i]!) (fun i hi => by simp at hi; match i, hi with | 0, _ => rfl | 1, _ => rfl | 2, _ => rfl | 3, _ => rfl)
    simp only [World.size_alloc] at this
    exact this
  have P : ∀ W, Below V.heap.size V W → W.cell? ⟨w.heap.size, 0, none⟩ = some (.int .i64 S) ∧ W.cell? ⟨w.heap.size, 1, none⟩ = some (.slice (some ⟨g, 0, none⟩) n n) ∧ W.cell? ⟨w.heap.size + 1, 0, none⟩ = some (.bool true) ∧ W.cell? ⟨w.heap.size + 1, 1, none⟩ = some (.slice (some ⟨gs, 0, none⟩) ns c1) ∧ W.cell? ⟨w.heap.size + 1, 2, none⟩ = some (.slice a2 n c2) ∧ W.cell? ⟨w.heap.size + 1 + 1, 0, none⟩ = some (.int .i64 op) ∧ W.cell? ⟨w.heap.size + 1 + 1, 1, none⟩ = some (.int .i64 f) ∧ W.cell? ⟨w.heap.size + 1 + 1, 2, none⟩ = some (.int .i64 d) := fun W hb =>
    ⟨(hb.cell (p := ⟨w.heap.size, 0, none⟩) (by simp; omega)).trans y0, (hb.cell (p := ⟨w.heap.size, 1, none⟩) (by simp; omega)).trans y1, (hb.cell (p := ⟨w.heap.size + 1, 0, none⟩) (by simp; omega)).trans y2, (hb.cell (p := ⟨w.heap.size + 1, 1, none⟩) (by simp; omega)).trans y3, (hb.cell (p := ⟨w.heap.size + 1, 2, none⟩) (by simp; omega)).trans y4, (hb.cell (p := ⟨w.heap.size + 1 + 1, 0, none⟩) (by simp; omega)).trans y5, (hb.cell (p := ⟨w.heap.size + 1 + 1, 1, none⟩) (by simp; omega)).trans y6, (hb.cell (p := ⟨w.heap.size + 1 + 1, 2, none⟩) (by simp; omega)).trans y7⟩
  have ks := fun W (hW : Below V.heap.size V W) => specStateOk_any S g n lo hi F T _ true ns n X D W (hrow.on (below_on bV hW)) (hs.on (below_on bV hW))
  have ke := fun W (hW : Below V.heap.size V W) => specEventOk_any S op f d g n F T W (hrow.on (below_on bV hW))
  rw [hst] at ks
  rw [hev] at ke
  have EV : Hid _ := eV
  have evb : evB S n op f d = true := by unfold evOk at hev; rw [hl] at hev; simpa using hev
  have eC : bhC S n F T X D op f d = effC n F T X D op f := by unfold bhC; rw [evb]; rfl
  have eX : bhX S n F T X D op f d = effX n F T X D op f d := by unfold bhX; rw [evb]; rfl
  have eD : bhD S n D op f d = effD D op f := by unfold bhD; rw [evb]; rfl
  unfold nxtX
  rw [eC, eX, eD]
  clear eV hst hev hs hX hD hX0 hD0 y0 y1 y2 y3 y4 y5 y6 y7 eC eX eD bL bS bE
  go_enter Try.func16, Try.ntmps16
  go_wp2_with fail
  rw [EV.out]
  refine (ks _ (Below.refl _ _)).mono ?_
  rintro e w1 ⟨rfl, B1⟩
  obtain ⟨y0, y1, y2, y3, y4, y5, y6, y7⟩ := P _ B1
  go_wp2_with fail
  refine (ke _ B1).mono ?_
  rintro e w2 ⟨rfl, hb2⟩
  have B2 := below_on B1 hb2
  clear hb2 B1 y0 y1 y2 y3 y4 y5 y6 y7
  obtain ⟨y0, y1, y2, y3, y4, y5, y6, y7⟩ := P _ B2
  go_wp2_with fail
  refine (l2copy_any true gs lo hi ns c1 a2 n c2 X D w2 hp (by omega) r3 (hL.on (below_on bV B2))).mono ?_
  rintro e w3 ⟨g', k1, a', k2, rfl, L3, hb3⟩
  have B3 := below_alloc (below_on B2 hb3) (.cells #[.bool true, .slice (some ⟨g', 0, none⟩) ns k1, .slice a' n k2] 44)
  have L3' : Lst (w3.alloc (.cells #[.bool true, .slice (some ⟨g', 0, none⟩) ns k1, .slice a' n k2] 44)) w2.heap.size w3.heap.size _ ns X _ n D := L3.on (by repeat (first | exact Below.refl _ _ | assumption | refine below_alloc ?_ _ | refine Below.setCell ?_ (by first | omega | (simp; done) | (simp; omega)) _ | refine Below.alloc ?_ (by first | omega | (simp; done) | (simp; omega)) _ | refine Below.drew ?_))
  have bo := Box3.lay w3 (.bool true) (.slice (some ⟨g', 0, none⟩) ns k1) (.slice a' n k2) 44
  have z2 : w.heap.size + 1 + 1 + 1 + 1 ≤ w2.heap.size := by have := B2.size; omega
  have z3 : w2.heap.size ≤ w3.heap.size := hb3.size
  clear y0 y1 y2 y3 y4 y5 y6 y7 B2 hb3 L3 ks ke
  obtain ⟨y0, y1, y2, y3, y4, y5, y6, y7⟩ := P _ B3
  go_upto_block 0 with fail
  obtain ⟨U, hU⟩ : ∃ U, w3.alloc (.cells #[.bool true, .slice (some ⟨g', 0, none⟩) ns k1, .slice a' n k2] 44) = U := ⟨_, rfl⟩
  rw [hU] at B3 L3' bo y0 y1 y2 y3 y4 y5 y6 y7 ⊢
  have zU : w3.heap.size < U.heap.size := by rw [← hU]; simp
  clear hU
  go_cut [8, 9, 10, 11, 12, 13] from 28 (fun q _ _ _ _ _ wc => q = .int .i64 (effC n F T X D op f) ∧ Lst wc w2.heap.size w3.heap.size (.slice (some ⟨g', 0, none⟩) ns k1) ns (effX n F T X D op f d) (.slice a' n k2) n (effD D op f) ∧ Turned U wc isSt w2.heap.size w3.heap.size)
  case first =>
    have hop := HOP.out
    obtain ⟨o0, o1, o2⟩ := bo.cells
    have hrU := hrow.on (below_on bV B3)
    have hLU := hL.on (below_on bV B3)
    unfold evB at evb
    by_cases h1 : op = 1 ∨ op = 2
    · omega
    · rw [if_neg h1] at evb
      by_cases h2 : op = 3 ∨ op = 4
      · rw [if_pos h2] at evb
        simp only [decide_eq_true_eq] at evb
        obtain ⟨v1, v2, rfl⟩ := evb
        obtain ⟨k, rfl⟩ : ∃ k : Nat, f = (k : Int) := ⟨f.toNat, by omega⟩
        have hkn : k < n := by omega
        obtain ⟨gd, rfl⟩ := L3'.2.addr (by omega)
        obtain ⟨q1, q2, md, fd, d1, d2, d3⟩ := L3'.2.blk (by omega)
        have ed := one d2 d1 hkn d3
        have zd := d2.frozen k
        rcases h2 with rfl | rfl
        · omega
        · omega
      · rw [if_neg h2] at evb
        by_cases h3 : op = 5
        · rw [if_pos h3] at evb
          simp only [decide_eq_true_eq] at evb
          obtain ⟨v1, v2, rfl⟩ := evb
          subst h3
          obtain ⟨k, rfl⟩ : ∃ k : Nat, f = (k : Int) := ⟨f.toNat, by omega⟩
          have hkn : k < ns := by omega
          have hk' : (k : Int) < (ns : Int) := by omega
          have cd := fun W (hW : Below U.heap.size U W) => l2dead_any S (k : Int) g n lo hi F T (.slice a2 n c2) D W (hrU.on hW) hl (by omega) v2 ((hLU.on hW).2)
          have lastr := ((secOk_iff.1 (hsec k hkn)).1).2.2
          have u1 : effC n F T X D 5 (k : Int) = rstC n F T X D k := by simp [effC]
          have u2 : effX n F T X D 5 (k : Int) 0 = rstY n F T X D k := by simp [effX]
          have u3 : effD D 5 (k : Int) = D := by simp [effD]
          have H1 : Hid _ := u1
          have H2 : Hid _ := u2
          have H3 : Hid _ := u3
          clear u1 u2 u3
          cases hdd : deadB n F T D (k : Int)
          · rw [hdd] at cd
            by_cases hl1 : (X k).last = 1
            · have e1 : rstC n F T X D k = 4 := by unfold rstC; rw [hdd]; simp [hl1]
              have e2 : rstY n F T X D k = X := by unfold rstY; rw [hdd]; simp [hl1]
              have K1 : Hid _ := e1
              have K2 : Hid _ := e2
              clear e1 e2
              go_wp2_with fail
              refine (cd _ (Below.refl _ _)).mono ?_
              rintro e w7 ⟨rfl, hb7⟩
              obtain ⟨p0, p1, p2, p3, p4, p5, p6, p7⟩ := P _ (below_on B3 hb7)
              obtain ⟨_, _, m, ff, b1, b2, b3⟩ := (hLU.on hb7).1.blk hp
              have e4 := (five b2 b1 hkn b3).2.2.2.2
              rw [hl1] at e4
              have L7 := L3'.on hb7
              clear b2 b3 cd
              go_wp2_with fail
              go_meet
              case rel => exact ⟨by rw [H1.out, K1.out], by rw [H2.out, H3.out, K2.out]; exact L7, Turned.of_below hb7⟩
            · have e1 : rstC n F T X D k = 0 := by unfold rstC; rw [hdd]; simp [hl1]
              have e2 : rstY n F T X D k = resetAt X k := by unfold rstY; rw [hdd]; simp [hl1]
              have K1 : Hid _ := e1
              have K2 : Hid _ := e2
              have hl' : ¬ (0 < (X k).last) := by omega
              have hl2 : decide (0 < (X k).last) = false := by simpa using hl'
              clear e1 e2 hl1 hl'
              go_wp2_with fail
              refine (cd _ (Below.refl _ _)).mono ?_
              rintro e w7 ⟨rfl, hb7⟩
              obtain ⟨p0, p1, p2, p3, p4, p5, p6, p7⟩ := P _ (below_on B3 hb7)
              obtain ⟨t0, t1, t2⟩ := (bo.on hb7).cells
              obtain ⟨_, _, m, ff, b1, b2, b3⟩ := (hLU.on hb7).1.blk hp
              have e4 := (five b2 b1 hkn b3).2.2.2.2
              have L7 := L3'.on hb7
              have HE : Hid _ := reset_end L7 hkn
              obtain ⟨_, _, m', ff', b1', b2', b3'⟩ := L7.1.blk hp
              obtain ⟨i0, i1, i2, i3, i4⟩ := five b2' b1' hkn b3'
              have z0 := b2'.frozen (k * 5)
              have z1 := b2'.frozen (k * 5 + 1)
              have z2' := b2'.frozen (k * 5 + 2)
              have z3' := b2'.frozen (k * 5 + 3)
              have z4 := b2'.frozen (k * 5 + 4)
              clear b2 b3 b2' b3' cd
              go_wp2_with fail
              go_meet
              case rel => exact ⟨by rw [H1.out, K1.out], by rw [H2.out, H3.out, K2.out]; exact HE.out.1, (Turned.of_below hb7).trans HE.out.2⟩
          · rw [hdd] at cd
            have e1 : rstC n F T X D k = 3 := by unfold rstC; rw [hdd]; simp
            have e2 : rstY n F T X D k = X := by unfold rstY; rw [hdd]; simp
            have K1 : Hid _ := e1
            have K2 : Hid _ := e2
            clear e1 e2
            go_wp2_with fail
            refine (cd _ (Below.refl _ _)).mono ?_
            rintro e w7 ⟨rfl, hb7⟩
            have L7 := L3'.on hb7
            go_wp2_with fail
            go_meet
            case rel => exact ⟨by rw [H1.out, K1.out], by rw [H2.out, H3.out, K2.out]; exact L7, Turned.of_below hb7⟩
        · rw [if_neg h3] at evb; cases evb
  case rest =>
    obtain ⟨rfl, L5, T5⟩ := hcut
    have B5 : Below V.heap.size V wc := B3.trans (T5.below (by omega) (by have := B3.size; omega))
    have bo5 := bo.turned T5 (.inl (by unfold isSt; decide))
    obtain ⟨o0, o1, o2⟩ := bo5.cells
    have zc : w3.heap.size < wc.heap.size := Nat.lt_of_lt_of_le zU T5.size
    have R5 := hrow.on (below_on bV B5)
    have x5 := x3.on B5
    have b5 := below_on bV B5
    obtain ⟨l0, l1, _, _, _, _, _, _⟩ := P _ B5
    obtain ⟨X', eX'⟩ : ∃ X', effX n F T X D op f d = X' := ⟨_, rfl⟩
    obtain ⟨D', eD'⟩ : ∃ D', effD D op f = D' := ⟨_, rfl⟩
    obtain ⟨CC, eCC⟩ : ∃ CC, effC n F T X D op f = CC := ⟨_, rfl⟩
    rw [eX', eD'] at L5
    have HXX : Hid (effX n F T X D op f d = X') := eX'
    have HDD : Hid (effD D op f = D') := eD'
    have HCC : Hid (effC n F T X D op f = CC) := eCC
    rw [eCC]
    clear y0 y1 y2 y3 y4 y5 y6 y7 bo T5 B3 L3' eX' eD' eCC hL hrow x3 P
    go_wp2
    go_loopw [130] (fun i wr => ∃ k : Nat, k ≤ ns ∧ i = .int .i64 k ∧ SlF wr 93 5 w2.heap.size w3.heap.size (.slice (some ⟨g', 0, none⟩) ns k1) ns (secs (toldTo n F T D' X' k)) ∧ Turned wc wr (· = 93) w2.heap.size w3.heap.size) (fun i _ => ns - (intOf i).toNat)
    case atStart => exact ⟨0, Nat.zero_le _, rfl, L5.1.congr (fun i _ j _ => by simp [secs, toldTo]), Turned.refl _ _ _ _⟩
    case round =>
      obtain ⟨k, hk, rfl, hSk, hT⟩ := hrel
      by_cases hlt : k < ns
      · have hk' : (k : Int) < (ns : Int) := by omega
        have hB : Below (w.heap.size + 1 + 1 + 1 + 1) wc wr := hT.below (by omega) (by omega)
        have bo6 := bo5.turned hT (.inl (by decide))
        have l0' : wr.cell? ⟨w.heap.size, 0, none⟩ = some (.int .i64 S) := (hB.cell (p := ⟨w.heap.size, 0, none⟩) (show w.heap.size < w.heap.size + 1 + 1 + 1 + 1 by omega)).trans l0
        have l1' : wr.cell? ⟨w.heap.size, 1, none⟩ = some (.slice (some ⟨g, 0, none⟩) n n) := (hB.cell (p := ⟨w.heap.size, 1, none⟩) (show w.heap.size < w.heap.size + 1 + 1 + 1 + 1 by omega)).trans l1
        have R6 : Row wr g 88 2 n (two F T) := Blk.turned R5 hT (.inl (by decide))
        have D6 := L5.2.turned hT (.inl (by decide))
        obtain ⟨q1, q2, m, ff, b1, b2, b3⟩ := hSk.blk hp
        obtain ⟨e0, e1, e2, e3, e4⟩ := five b2 b1 hlt b3
        have ex : toldTo n F T D' X' k k = X' k := by simp [toldTo]
        rw [ex] at e0 e1 e2 e3 e4
        have hz0 := b2.frozen (k * 5)
        have zr : w3.heap.size < wr.heap.size := Nat.lt_of_lt_of_le zc hT.size
        go_upto_region 38 with fail
        refine wp_region_any (by kernel_rfl) ?_
        refine InC.any (C := fun W => Box3 W w3.heap.size 44 (.bool true) (.slice (some ⟨g', 0, none⟩) ns k1) (.slice a' n k2) ∧ (W.cell? ⟨w.heap.size, 0, none⟩ = some (.int .i64 S) ∧ W.cell? ⟨w.heap.size, 1, none⟩ = some (.slice (some ⟨g, 0, none⟩) n n))) _ _ _ _ ?_
        have C0 : Box3 wr.drew w3.heap.size 44 (.bool true) (.slice (some ⟨g', 0, none⟩) ns k1) (.slice a' n k2) ∧ (wr.drew.cell? ⟨w.heap.size, 0, none⟩ = some (.int .i64 S) ∧ wr.drew.cell? ⟨w.heap.size, 1, none⟩ = some (.slice (some ⟨g, 0, none⟩) n n)) := ⟨bo6, l0', l1'⟩
        refine InC.take (i := 0) (v := .pointer (some ⟨w3.heap.size, 1, none⟩)) rfl (by kernel_rfl) (by kernel_rfl) (by kernel_rfl) (fun _ _ _ h => h) C0 (Or.inl ⟨by rfl, ?_⟩) ?_
        · intro W hW
          go_simp
        refine InC.take (i := 1) (v := .slice (some ⟨g', 0, none⟩) ns k1) rfl (by kernel_rfl) (by kernel_rfl) (by kernel_rfl) (fun _ _ _ h => h) C0 (Or.inl ⟨by rfl, ?_⟩) ?_
        · intro W hW
          obtain ⟨o0, o1, o2⟩ := hW.1.cells
          go_simp
        refine InC.take (i := 2) (v := .int .i64 (k : Int)) rfl (by kernel_rfl) (by kernel_rfl) (by kernel_rfl) (fun _ _ _ h => h) C0 (Or.inl ⟨by rfl, ?_⟩) ?_
        · intro W hW
          go_simp
        refine InC.take (i := 3) (v := .agg #[.int .i64 S, .slice (some ⟨g, 0, none⟩) n n]) rfl (by kernel_rfl) (by kernel_rfl) (by kernel_rfl) (fun _ _ _ h => h) C0 (Or.inl ⟨by rfl, ?_⟩) ?_
        · intro W hW
          obtain ⟨l0, l1⟩ := hW.2
          go_simp
        refine InC.take (i := 4) (v := .pointer (some ⟨w3.heap.size, 2, none⟩)) rfl (by kernel_rfl) (by kernel_rfl) (by kernel_rfl) (fun _ _ _ h => h) C0 (Or.inl ⟨by rfl, ?_⟩) ?_
        · intro W hW
          go_simp
        refine InC.take (i := 5) (v := .slice a' n k2) rfl (by kernel_rfl) (by kernel_rfl) (by kernel_rfl) (fun _ _ _ h => h) C0 (Or.inl ⟨by rfl, ?_⟩) ?_
        · intro W hW
          obtain ⟨o0, o1, o2⟩ := hW.1.cells
          go_simp
        refine InC.take (i := 6) (v := .int .i64 (k : Int)) rfl (by kernel_rfl) (by kernel_rfl) (by kernel_rfl) (fun _ _ _ h => h) C0 (Or.inl ⟨by rfl, ?_⟩) ?_
        · intro W hW
          go_simp
        refine InC.take (i := 7) (v := .pointer (some ⟨w3.heap.size, 1, none⟩)) rfl (by kernel_rfl) (by kernel_rfl) (by kernel_rfl) (fun _ _ _ h => h) C0 (Or.inl ⟨by rfl, ?_⟩) ?_
        · intro W hW
          go_simp
        refine InC.take (i := 8) (v := .slice (some ⟨g', 0, none⟩) ns k1) rfl (by kernel_rfl) (by kernel_rfl) (by kernel_rfl) (fun _ _ _ h => h) C0 (Or.inl ⟨by rfl, ?_⟩) ?_
        · intro W hW
          obtain ⟨o0, o1, o2⟩ := hW.1.cells
          go_simp
        refine InC.take (i := 9) (v := .int .i64 (k : Int)) rfl (by kernel_rfl) (by kernel_rfl) (by kernel_rfl) (fun _ _ _ h => h) C0 (Or.inl ⟨by rfl, ?_⟩) ?_
        · intro W hW
          go_simp
        refine InC.take (i := 10) (v := .pointer (some ⟨g', k * 5, none⟩)) rfl (by kernel_rfl) (by kernel_rfl) (by kernel_rfl) (fun _ _ _ h => h) C0 (Or.inl ⟨by rfl, ?_⟩) ?_
        · intro W hW
          go_simp
        refine InC.next1 (i := 11) (by kernel_rfl) (InC.one rfl fun K hK => ?_)
        go_simp
        refine hK _ _ C0 ?_
        clear hK K
        refine InC.next1 (i := 12) (by kernel_rfl) (InC.one rfl fun K hK => ?_)
        go_simp
        refine (l2told_any S (k : Int) g n w2.heap.size w3.heap.size F T _ D' (X' k) wr.drew R6.drew hl (by omega) (by omega) D6.drew).mono ?_
        rintro e w7 ⟨rfl, hb7⟩
        have hb7' : Below wr.heap.size wr w7 := (Below.refl wr.heap.size wr).drew.trans hb7
        have S7 := hSk.on hb7'
        have bo7 := bo6.on hb7'
        have l07 := (hb7'.cell (p := ⟨w.heap.size, 0, none⟩) (show w.heap.size < wr.heap.size by omega)).trans l0'
        have l17 := (hb7'.cell (p := ⟨w.heap.size, 1, none⟩) (show w.heap.size < wr.heap.size by omega)).trans l1'
        refine hK _ _ ⟨bo7, l07, l17⟩ ?_
        clear hK K
        obtain ⟨q1', q2', m', ff', b1', b2', b3'⟩ := S7.blk hp
        have e07 := (five b2' b1' hlt b3').1
        have z07 := b2'.frozen (k * 5)
        have T8 := S7.turnSet hp (k * 5) (.int .i64 (toldZ (deadB n F T D' (k : Int)) (X' k)))
        have S8 := told_step S7 hlt
        have hB8 := T8.below (B := w.heap.size + 1 + 1 + 1 + 1) (by omega) (by have := hb7'.size; omega)
        refine InC.next1 (i := 13) (by kernel_rfl) (InC.one rfl fun K hK => ?_)
        go_simp
        refine hK _ _ ⟨bo7, l07, l17⟩ ?_
        clear hK K
        refine InC.next1 (i := 14) (by kernel_rfl) (InC.one rfl fun K hK => ?_)
        go_simp
        refine hK _ _ ⟨bo7, l07, l17⟩ ?_
        clear hK K
        refine InC.next1 (i := 15) (by kernel_rfl) (InC.one rfl fun K hK => ?_)
        go_simp
        refine hK _ _ ⟨bo7.turned T8 (.inl (by decide)), (hB8.cell (p := ⟨w.heap.size, 0, none⟩) (show w.heap.size < w.heap.size + 1 + 1 + 1 + 1 by omega)).trans l07, (hB8.cell (p := ⟨w.heap.size, 1, none⟩) (show w.heap.size < w.heap.size + 1 + 1 + 1 + 1 by omega)).trans l17⟩ ?_
        clear hK K
        refine InC.done (by kernel_rfl) ?_
        have T9 := (hT.trans (Turned.of_below hb7')).trans T8
        go_wp2
        go_roundw
        case rel => exact ⟨k + 1, by omega, by go_num, S8, T9⟩
        case measure => simp [intOf]; omega
      · have hkn : k = ns := by omega
        subst hkn
        have bo6 := bo5.turned hT (.inl (by decide))
        obtain ⟨o0, o1, o2⟩ := bo6.cells
        have s3 := x5.turned hT (.inl (by decide))
        have L9 : Lst wr w2.heap.size w3.heap.size (.slice (some ⟨g', 0, none⟩) k k1) k (told1 n F T D' X') (.slice a' n k2) n D' := ⟨hSk.congr (fun i hi j _ => by simp [secs, toldTo, hi]), L5.2.turned hT (.inl (by decide))⟩
        have B9 : Below w.heap.size w wr := b5.trans (hT.below (by omega) (by omega))
        have zr : wc.heap.size ≤ wr.heap.size := hT.size
        have g0 := s3.cell (i := 0) (by omega)
        have g1 := s3.cell (i := 1) (by omega)
        have g2 := s3.cell (i := 2) (by omega)
        have g3 := s3.cell (i := 3) (by omega)
        have h0 := s3.frozen 0
        have h1 := s3.frozen 1
        have h2 := s3.frozen 2
        have h3 := s3.frozen 3
        obtain ⟨s5, T5, zz⟩ := done_set s3 (.int .i64 CC) (.bool true) (.slice (some ⟨g', 0, none⟩) k k1) (.slice a' n k2)
        have t0 := s5.cell (i := 0) (by omega)
        have t1 := s5.cell (i := 1) (by omega)
        have t2 := s5.cell (i := 2) (by omega)
        have t3 := s5.cell (i := 3) (by omega)
        simp only [Nat.reduceEqDiff, if_false, if_true] at t0 t1 t2 t3
        have L10 : Lst _ w2.heap.size w3.heap.size (.slice (some ⟨g', 0, none⟩) k k1) k (told1 n F T D' X') (.slice a' n k2) n D' := ⟨L9.1.turned T5 (.inl (by decide)), L9.2.turned T5 (.inl (by decide))⟩
        have L11 := L10.wide (lo' := w.heap.size) (by omega) (Nat.le_trans (show w3.heap.size ≤ wr.heap.size by omega) (Nat.le_of_eq zz.symm))
        have B11 := B9.trans (T5.below (B := w.heap.size) (by omega) (by omega))
        have HL : Hid _ := L11
        have HB : Hid _ := B11
        clear L9 L10 L11 B11 T5 s3 s5 zz x5 hSk hT L5
        go_wp2
        exact bodyPost_ret (v := .agg #[.int .i64 CC, .bool true, .slice (some ⟨g', 0, none⟩) k k1, .slice a' n k2]) (by simp only [results, Try.results16]; simp [go_sem, t0, t1, t2, t3]) rfl ⟨_, rfl, ⟨_, _, _, _, by rw [HCC.out], by rw [HXX.out, HDD.out]; exact Lst.st HL.out⟩, HB.out⟩

end Go.Proofs.Ytlpopfhaephfaab
