import Derived.Test.YtlpopfhaephfaabDM10
import Derived.Test.YtlpopfhaephfaabSO4
namespace Go.Proofs.Ytlpopfhaephfaab
open Go.RowKit Go.Maps Go.Sort

theorem stOk_parts {S : Int} {n : Nat} {F T : Nat → Int} {ok : Bool} {ns nd : Nat} {X : Nat → Sec} {D : Nat → Bool} (h : stOk S n F T ok ns nd X D = true) : lokZ S n F T = 0 ∧ ok = true ∧ (ns : Int) = S ∧ nd = n ∧ ∀ k, k < ns → secOk (deadB n F T D (k : Int)) (X k) = true := by
  unfold stOk at h
  simp only [Bool.and_eq_true, beq_iff_eq, List.all_eq_true, List.mem_range] at h
  obtain ⟨⟨⟨⟨h1, h2⟩, h3⟩, h4⟩, h5⟩ := h
  exact ⟨h1, h2, h3, h4, h5⟩

theorem secOk_count {dd : Bool} {x : Sec} (h : secOk dd x = true) : -1000000 ≤ x.count ∧ x.count ≤ 1000000 := by
  have := (secOk_iff.1 h).1
  exact ⟨this.1, this.2.1⟩

/-- A Done's four cells, and the state in it. -/
def DoR (w w' : World) (v : Value) (C : Int) (ok : Bool) (ns nd : Nat) (X : Nat → Sec) (D : Nat → Bool) : Prop := ∃ a1 c1 a2 c2, v = .agg #[.int .i64 C, .bool ok, .slice a1 ns c1, .slice a2 nd c2] ∧ StF w' w.heap.size w'.heap.size (.agg #[.bool ok, .slice a1 ns c1, .slice a2 nd c2]) ok ns nd X D

/-- the worlds behind a result's box of four cells is set -/
theorem done_set {W : World} {b : Nat} {f : Nat → Value} (h : Blk W b 46 4 f) (x y z u : Value) :
    Blk ((((W.setCell ⟨b, 0, none⟩ x).setCell ⟨b, 1, none⟩ y).setCell ⟨b, 2, none⟩ z).setCell ⟨b, 3, none⟩ u) b 46 4 (fun i => if i = 0 then x else if i = 1 then y else if i = 2 then z else u) ∧
    Turned W ((((W.setCell ⟨b, 0, none⟩ x).setCell ⟨b, 1, none⟩ y).setCell ⟨b, 2, none⟩ z).setCell ⟨b, 3, none⟩ u) (· = 46) b (b + 1) ∧
    ((((W.setCell ⟨b, 0, none⟩ x).setCell ⟨b, 1, none⟩ y).setCell ⟨b, 2, none⟩ z).setCell ⟨b, 3, none⟩ u).heap.size = W.heap.size := by
  refine ⟨((((h.set 0 x).set 1 y).set 2 z).set 3 u).congr (fun i hi => ?_), Turned.of_grown (grown_set (grown_set (grown_set (grown_set (World.grownBy.refl _ _) _) _) _) _) (Nat.le_refl _) (by omega) rfl h, by simp [World.setCell]⟩
  match i, hi with | 0, _ => rfl | 1, _ => rfl | 2, _ => rfl | 3, _ => rfl

theorem Lst.st {w : World} {lo hi ns n : Nat} {a1 a2 : Option Addr} {c1 c2 : Nat} {ok : Bool} {X : Nat → Sec} {D : Nat → Bool} (h : Lst w lo hi (.slice a1 ns c1) ns X (.slice a2 n c2) n D) : StF w lo hi (.agg #[.bool ok, .slice a1 ns c1, .slice a2 n c2]) ok ns n X D := ⟨_, _, rfl, h.1, h.2⟩

set_option maxRecDepth 100000 in
set_option maxHeartbeats 2000000 in
theorem implDo_ok (S op f d : Int) (g n lo hi : Nat) (F T : Nat → Int) (v : Value) (ns : Nat) (X : Nat → Sec) (D : Nat → Bool) (w : World) (hrow : Row w g 88 2 n (two F T)) (hs : StF w lo hi v true ns n X D) (hst : stOk S n F T true ns n X D = true) (hev : evOk S n F T op f d = true) :
    Calls Try.prog 18 #[.agg #[.int .i64 S, .slice (some ⟨g, 0, none⟩) n n], v, .agg #[.int .i64 op, .int .i64 f, .int .i64 d]] w fun e w' => ∃ u, e = .returned u ∧ DoR w w' u (bhC S n F T X D op f d) true ns n (nxtX S n F T X D op f d) (bhD S n D op f d) ∧ Below w.heap.size w w' := by
  obtain ⟨hl, _, hS, _, hsec⟩ := stOk_parts hst
  obtain ⟨r1, r2, r3⟩ := lok_range hl
  obtain ⟨f1, f2, f3⟩ := lok_wf hl
  have hc : ∀ k, k < ns → -1000000 ≤ (X k).count ∧ (X k).count ≤ 1000000 := fun k hk => secOk_count (hsec k hk)
  have hp : 0 < ns := by omega
  obtain ⟨_, _, rfl, ⟨a1, c1, rfl, hX0⟩, ⟨a2, c2, rfl, hD0⟩⟩ := id hs
  obtain ⟨_, _, e, hX, hD⟩ := id hs
  simp only [Value.agg.injEq, Array.mk.injEq, List.cons.injEq, and_true, true_and] at e
  obtain ⟨rfl, rfl⟩ := e
  obtain ⟨gs, rfl⟩ := hX.addr hp
  have hL : Lst w lo hi (.slice (some ⟨gs, 0, none⟩) ns c1) ns X (.slice a2 n c2) n D := ⟨hX, hD⟩
  obtain ⟨V, eV⟩ : ∃ V, (((w.alloc (.cells #[.int .i64 S, .slice (some ⟨g, 0, none⟩) n n] 31)).alloc (.cells #[.bool true, .slice (some ⟨gs, 0, none⟩) ns c1, .slice a2 n c2] 44)).alloc (.cells #[.int .i64 op, .int .i64 f, .int .i64 d] 33)).alloc (.cells #[.int .i64 0, .bool false, .slice none 0 0, .slice none 0 0] 46) = V := ⟨_, rfl⟩
  have sV : V.heap.size = w.heap.size + 1 + 1 + 1 + 1 := by rw [← eV]; simp
  have bV : Below w.heap.size w V := by rw [← eV]; exact (by repeat (first | exact Below.refl _ _ | assumption | refine below_alloc ?_ _ | refine Below.setCell ?_ (by first | omega | (simp; done) | (simp; omega)) _ | refine Below.alloc ?_ (by first | omega | (simp; done) | (simp; omega)) _ | refine Below.drew ?_))
  have bL : Blk V w.heap.size 31 2 (fun i => if i = 0 then .int .i64 S else .slice (some ⟨g, 0, none⟩) n n) := by
    rw [← eV]
    exact (((Blk.new w #[.int .i64 S, .slice (some ⟨g, 0, none⟩) n n] 31 _ (fun i hi => by simp at hi; match i, hi with | 0, _ => rfl | 1, _ => rfl)).alloc _).alloc _).alloc _
  have bS : Box3 V (w.heap.size + 1) 44 (.bool true) (.slice (some ⟨gs, 0, none⟩) ns c1) (.slice a2 n c2) := by
    rw [← eV]
    have := ((Box3.lay (w.alloc (.cells #[.int .i64 S, .slice (some ⟨g, 0, none⟩) n n] 31)) (.bool true) (.slice (some ⟨gs, 0, none⟩) ns c1) (.slice a2 n c2) 44).alloc (.cells #[.int .i64 op, .int .i64 f, .int .i64 d] 33)).alloc (.cells #[.int .i64 0, .bool false, .slice none 0 0, .slice none 0 0] 46)
    simp only [World.size_alloc] at this
    exact this
  have bE : Box3 V (w.heap.size + 1 + 1) 33 (.int .i64 op) (.int .i64 f) (.int .i64 d) := by
    rw [← eV]
    have := (Box3.lay ((w.alloc (.cells #[.int .i64 S, .slice (some ⟨g, 0, none⟩) n n] 31)).alloc (.cells #[.bool true, .slice (some ⟨gs, 0, none⟩) ns c1, .slice a2 n c2] 44)) (.int .i64 op) (.int .i64 f) (.int .i64 d) 33).alloc (.cells #[.int .i64 0, .bool false, .slice none 0 0, .slice none 0 0] 46)
    simp only [World.size_alloc] at this
    exact this
  have y0 := bL.cell (i := 0) (by omega)
  have y1 := bL.cell (i := 1) (by omega)
  obtain ⟨y2, y3, y4⟩ := bS.cells
  obtain ⟨y5, y6, y7⟩ := bE.cells
  have x3 : Blk V (w.heap.size + 1 + 1 + 1) 46 4 (fun i => #[.int .i64 0, .bool false, .slice none 0 0, .slice none 0 0][i]!) := by
    rw [← eV]
    have := Blk.new (((w.alloc (.cells #[.int .i64 S, .slice (some ⟨g, 0, none⟩) n n] 31)).alloc (.cells #[.bool true, .slice (some ⟨gs, 0, none⟩) ns c1, .slice a2 n c2] 44)).alloc (.cells #[.int .i64 op, .int .i64 f, .int .i64 d] 33)) #[.int .i64 0, .bool false, .slice none 0 0, .slice none 0 0] 46 (fun i => #[.int .i64 0, .bool false, .slice none 0 0, .slice none 0 0][i]!) (fun i hi => by simp at hi; match i, hi with | 0, _ => rfl | 1, _ => rfl | 2, _ => rfl | 3, _ => rfl)
    simp only [World.size_alloc] at this
    exact this
  have P : ∀ W, Below V.heap.size V W → W.cell? ⟨w.heap.size, 0, none⟩ = some (.int .i64 S) ∧ W.cell? ⟨w.heap.size, 1, none⟩ = some (.slice (some ⟨g, 0, none⟩) n n) ∧ W.cell? ⟨w.heap.size + 1, 0, none⟩ = some (.bool true) ∧ W.cell? ⟨w.heap.size + 1, 1, none⟩ = some (.slice (some ⟨gs, 0, none⟩) ns c1) ∧ W.cell? ⟨w.heap.size + 1, 2, none⟩ = some (.slice a2 n c2) ∧ W.cell? ⟨w.heap.size + 1 + 1, 0, none⟩ = some (.int .i64 op) ∧ W.cell? ⟨w.heap.size + 1 + 1, 1, none⟩ = some (.int .i64 f) ∧ W.cell? ⟨w.heap.size + 1 + 1, 2, none⟩ = some (.int .i64 d) := fun W hb =>
    ⟨(hb.cell (p := ⟨w.heap.size, 0, none⟩) (by simp; omega)).trans y0, (hb.cell (p := ⟨w.heap.size, 1, none⟩) (by simp; omega)).trans y1, (hb.cell (p := ⟨w.heap.size + 1, 0, none⟩) (by simp; omega)).trans y2, (hb.cell (p := ⟨w.heap.size + 1, 1, none⟩) (by simp; omega)).trans y3, (hb.cell (p := ⟨w.heap.size + 1, 2, none⟩) (by simp; omega)).trans y4, (hb.cell (p := ⟨w.heap.size + 1 + 1, 0, none⟩) (by simp; omega)).trans y5, (hb.cell (p := ⟨w.heap.size + 1 + 1, 1, none⟩) (by simp; omega)).trans y6, (hb.cell (p := ⟨w.heap.size + 1 + 1, 2, none⟩) (by simp; omega)).trans y7⟩
  have ks := fun W (hW : Below V.heap.size V W) => implStateOk_any S g n lo hi F T _ true ns n X D W (hrow.on (below_on bV hW)) (hs.on (below_on bV hW))
  have ke := fun W (hW : Below V.heap.size V W) => implEventOk_any S op f d g n F T W (hrow.on (below_on bV hW))
  rw [hst] at ks
  rw [hev] at ke
  have cb : ∀ W, Row W g 88 2 n (two F T) → _ := fun W hr => bySide_any S g n F T W hr r3 f1 f2 f3
  have EV : Hid _ := eV
  clear eV hst hev hs hX hD hX0 hD0 y0 y1 y2 y3 y4 y5 y6 y7 f1 f2 f3 hsec bL bS bE
  go_enter Try.func18, Try.ntmps18
  go_wp2_with fail
  rw [EV.out]
  refine (ks _ (Below.refl _ _)).mono ?_
  rintro e w1 ⟨rfl, B1⟩
  obtain ⟨y0, y1, y2, y3, y4, y5, y6, y7⟩ := P _ B1
  go_wp2_with fail
  refine (ke _ B1).mono ?_
  rintro e w2 ⟨rfl, hb2⟩
  have B2 := below_on B1 hb2
  clear hb2 B1 y0 y1 y2 y3 y4 y5 y6 y7
  have R2 := hrow.on (below_on bV B2)
  have z2 : w.heap.size + 1 + 1 + 1 + 1 ≤ w2.heap.size := by have := B2.size; omega
  go_upto_region 3 with fail
  go_cut [7] from 19 (fun q wc => ∃ bb B, q = .pointer (some ⟨bb, 0, none⟩) ∧ Brd wc bb S g n B true (.slice (some ⟨gs, 0, none⟩) ns c1) (.slice a2 n c2) ∧ Grp wc B (2 * n) (zsAt F T n) ∧ Below w2.heap.size w2 wc)
  case first =>
    have Rd := R2.drew
    have p1 : ∀ wB, Below w2.heap.size w2 wB → _ := fun wB hb => P wB (below_on B2 hb)
    obtain ⟨Z, eZ⟩ : ∃ Z, Z = Obj.cells #[.int .i64 0, .slice none 0 0, .map none, .bool false, .slice none 0 0, .slice none 0 0] 101 := ⟨_, rfl⟩
    have bZ : Blk (w2.alloc Z).drew w2.heap.size 101 6 (fun i => #[.int .i64 0, .slice none 0 0, .map none, .bool false, .slice none 0 0, .slice none 0 0][i]!) := by
      rw [eZ]; exact Blk.new w2 #[.int .i64 0, .slice none 0 0, .map none, .bool false, .slice none 0 0, .slice none 0 0] _ _ (fun i hi => by simp at hi; match i, hi with | 0, _ => rfl | 1, _ => rfl | 2, _ => rfl | 3, _ => rfl | 4, _ => rfl | 5, _ => rfl)
    have q1 : Below w2.heap.size w2 (w2.alloc Z).drew := (below_alloc (Below.refl _ _) _).drew
    have p2 : ∀ wB, Below (w2.alloc Z).drew.heap.size (w2.alloc Z).drew wB → Blk wB w2.heap.size 101 6 (fun i => #[.int .i64 0, .slice none 0 0, .map none, .bool false, .slice none 0 0, .slice none 0 0][i]!) := fun wB hb => bZ.on hb
    have Ra := (R2.alloc Z).drew
    subst eZ
    have P1 : Hid _ := p1
    have P2 : Hid _ := p2
    have Q1 : Hid _ := q1
    clear p1 p2 q1 bZ
    refine wp_region_any (by kernel_rfl) ?_
    refine InC.any (C := fun W => Below w2.heap.size w2 W) _ _ _ _ ?_
    have C0 : Below w2.heap.size w2 w2.drew := (Below.refl _ _).drew
    refine InC.take (i := 0) (v := .agg #[.int .i64 S, .slice (some ⟨g, 0, none⟩) n n]) rfl (by kernel_rfl) (by kernel_rfl) (by kernel_rfl) (fun _ _ _ h => h) C0 (Or.inl ⟨by rfl, ?_⟩) ?_
    · intro W hW
      obtain ⟨k0, k1, k2, k3, k4, _, _, _⟩ := P1.out W hW
      go_simp
    refine InC.take (i := 1) (v := .agg #[.int .i64 S, .slice (some ⟨g, 0, none⟩) n n]) rfl (by kernel_rfl) (by kernel_rfl) (by kernel_rfl) (fun _ _ _ h => h) C0 (Or.inl ⟨by rfl, ?_⟩) ?_
    · intro W hW
      obtain ⟨k0, k1, k2, k3, k4, _, _, _⟩ := P1.out W hW
      go_simp
    refine InC.take (i := 3) (v := .agg #[.bool true, .slice (some ⟨gs, 0, none⟩) ns c1, .slice a2 n c2]) rfl (by kernel_rfl) (by kernel_rfl) (by kernel_rfl) (fun _ _ _ h => h) C0 (Or.inl ⟨by rfl, ?_⟩) ?_
    · intro W hW
      obtain ⟨k0, k1, k2, k3, k4, _, _, _⟩ := P1.out W hW
      go_simp
    refine InC.next2 (i := 2) (j := 5) (by kernel_rfl) (InC.one rfl fun K hK => ?_) (InC.one rfl fun K hK => ?_)
    · go_simp
      refine (cb _ Rd).mono ?_
      rintro e wB ⟨B, rfl, hB0, gB, hbB⟩
      have CB : Below w2.heap.size w2 wB := below_on C0 hbB
      refine hK _ _ CB ?_
      clear hK K
      refine InC.take (i := 4) (v := .agg #[.int .i64 S, .slice (some ⟨g, 0, none⟩) n n, .map (some B), .bool true, .slice (some ⟨gs, 0, none⟩) ns c1, .slice a2 n c2]) rfl (by kernel_rfl) (by kernel_rfl) (by kernel_rfl) (fun _ _ _ h => h) CB (Or.inl ⟨by rfl, ?_⟩) ?_
      · intro W hW
        go_simp
      refine InC.next1 (i := 5) (by kernel_rfl) (InC.one rfl fun K hK => ?_)
      go_simp
      refine hK _ _ (below_alloc CB _) ?_
      clear hK K
      refine InC.next1 (i := 6) (by kernel_rfl) (InC.one rfl fun K hK => ?_)
      go_simp
      refine hK _ _ (below_alloc CB _) ?_
      clear hK K
      refine InC.done (by kernel_rfl) ?_
      go_wp2_with fail
      go_meet
      case rel => exact ⟨_, _, rfl, brd_late gB CB _ _ _ _ _ _⟩
    · go_simp
      refine hK _ _ Q1.out ?_
      clear hK K
      refine InC.next1 (i := 2) (by kernel_rfl) (InC.one rfl fun K hK => ?_)
      go_simp
      refine (cb _ Ra).mono ?_
      rintro e wB ⟨B, rfl, hB0, gB, hbB⟩
      have CB : Below w2.heap.size w2 wB := below_on Q1.out hbB
      have hZ := P2.out _ hbB
      have y0 := hZ.cell (i := 0) (by omega)
      have y1 := hZ.cell (i := 1) (by omega)
      have y2 := hZ.cell (i := 2) (by omega)
      have y3 := hZ.cell (i := 3) (by omega)
      have y4 := hZ.cell (i := 4) (by omega)
      have y5 := hZ.cell (i := 5) (by omega)
      have x0 := hZ.frozen 0
      have x1 := hZ.frozen 1
      have x2 := hZ.frozen 2
      have x3 := hZ.frozen 3
      have x4 := hZ.frozen 4
      have x5 := hZ.frozen 5
      refine hK _ _ CB ?_
      clear hK K
      refine InC.next1 (i := 4) (by kernel_rfl) (InC.one rfl fun K hK => ?_)
      go_simp
      refine hK _ _ CB ?_
      clear hK K
      refine InC.next1 (i := 6) (by kernel_rfl) (InC.one rfl fun K hK => ?_)
      go_simp
      have E := brd_early gB Q1.out hbB hZ S g true (.slice (some ⟨gs, 0, none⟩) ns c1) (.slice a2 n c2)
      refine hK _ _ E.2.2 ?_
      clear hK K
      refine InC.done (by kernel_rfl) ?_
      go_wp2_with fail
      go_meet
      case rel => exact ⟨_, _, rfl, E⟩
  case rest =>
    obtain ⟨bb, B, rfl, hbd, gB, hbB⟩ := hcut
    have B3 := below_on B2 hbB
    obtain ⟨y0, y1, y2, y3, y4, y5, y6, y7⟩ := P _ B3
    obtain ⟨d0, d1, d2, d3, d4, d5⟩ := hbd
    have kb := behind_any S op f d g n B lo hi F T true gs c1 ns a2 c2 X D wc hl hS hc (hrow.on (below_on bV B3)) gB (hL.on (below_on bV B3))
    unfold brdV at kb
    have x3c := x3.on B3
    have z3 : w.heap.size + 1 + 1 + 1 + 1 ≤ wc.heap.size := by have := B3.size; omega
    have Bc := below_on bV B3
    clear hrow hL P ks ke cb R2 B2 gB x3 hbB
    go_wp2_with fail
    refine kb.mono ?_
    clear kb
    rintro e w4 ⟨g', k1, a', k2, rfl, L4, hb4⟩
    have s3 := x3c.on hb4
    have B4 := below_on Bc hb4
    have z4 := hb4.size
    have g0 := s3.cell (i := 0) (by omega)
    have g1 := s3.cell (i := 1) (by omega)
    have g2 := s3.cell (i := 2) (by omega)
    have g3 := s3.cell (i := 3) (by omega)
    have h0 := s3.frozen 0
    have h1 := s3.frozen 1
    have h2 := s3.frozen 2
    have h3 := s3.frozen 3
    obtain ⟨C, eC⟩ : ∃ C, bhC S n F T X D op f d = C := ⟨_, rfl⟩
    rw [eC]
    obtain ⟨s5, T5, zz⟩ := done_set s3 (.int .i64 C) (.bool true) (.slice (some ⟨g', 0, none⟩) ns k1) (.slice a' n k2)
    have t0 := s5.cell (i := 0) (by omega)
    have t1 := s5.cell (i := 1) (by omega)
    have t2 := s5.cell (i := 2) (by omega)
    have t3 := s5.cell (i := 3) (by omega)
    simp only [Nat.reduceEqDiff, if_false, if_true] at t0 t1 t2 t3
    have L5 : Lst _ wc.heap.size w4.heap.size (.slice (some ⟨g', 0, none⟩) ns k1) ns (nxtX S n F T X D op f d) (.slice a' n k2) n (bhD S n D op f d) := ⟨L4.1.turned T5 (.inl (by decide)), L4.2.turned T5 (.inl (by decide))⟩
    have L6 := L5.wide (lo' := w.heap.size) (by omega) (show w4.heap.size ≤ _ from Nat.le_of_eq zz.symm)
    have B6 := B4.trans (T5.below (B := w.heap.size) (by omega) (by omega))
    have HL : Hid _ := L6
    have HB : Hid _ := B6
    have HC : Hid (bhC S n F T X D op f d = C) := eC
    clear L4 L5 L6 B6 T5 s3 s5 zz x3c eC
    go_wp2
    exact bodyPost_ret (v := .agg #[.int .i64 C, .bool true, .slice (some ⟨g', 0, none⟩) ns k1, .slice a' n k2]) (by simp only [results, Try.results18]; simp [go_sem, t0, t1, t2, t3]) rfl ⟨_, rfl, ⟨_, _, _, _, by rw [HC.out], Lst.st HL.out⟩, HB.out⟩

end Go.Proofs.Ytlpopfhaephfaab
