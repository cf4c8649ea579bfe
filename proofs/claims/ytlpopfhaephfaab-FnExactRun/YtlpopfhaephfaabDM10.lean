import Derived.Test.YtlpopfhaephfaabDM9
namespace Go.Proofs.Ytlpopfhaephfaab
open Go.RowKit Go.Maps Go.Sort

/-- what stands behind an event, told -/
def nxtX (S : Int) (n : Nat) (F T : Nat → Int) (X : Nat → Sec) (D : Nat → Bool) (op f d : Int) : Nat → Sec := told1 n F T (bhD S n D op f d) (bhX S n F T X D op f d)

set_option maxRecDepth 100000 in
set_option maxHeartbeats 2000000 in
theorem behind_any (S op f d : Int) (g n B lo hi : Nat) (F T : Nat → Int) (ok : Bool) (gs c1 ns : Nat) (a2 : Option Addr) (c2 : Nat) (X : Nat → Sec) (D : Nat → Bool) (w : World) (hl : lokZ S n F T = 0) (hS : (ns : Int) = S) (hc : ∀ k, k < ns → -1000000 ≤ (X k).count ∧ (X k).count ≤ 1000000)
    (hrow : Row w g 88 2 n (two F T)) (hg : Grp w B (2 * n) (zsAt F T n)) (hL : Lst w lo hi (.slice (some ⟨gs, 0, none⟩) ns c1) ns X (.slice a2 n c2) n D) :
    Calls Try.prog 62 #[brdV S g n B ok (.slice (some ⟨gs, 0, none⟩) ns c1) (.slice a2 n c2), .agg #[.int .i64 op, .int .i64 f, .int .i64 d]] w fun e w' => ∃ g' k1 a' k2, e = .returned (.agg #[.int .i64 (bhC S n F T X D op f d), .bool ok, .slice (some ⟨g', 0, none⟩) ns k1, .slice a' n k2]) ∧ Lst w' w.heap.size w'.heap.size (.slice (some ⟨g', 0, none⟩) ns k1) ns (nxtX S n F T X D op f d) (.slice a' n k2) n (bhD S n D op f d) ∧ Below w.heap.size w w' := by
  obtain ⟨r1, r2, r3⟩ := lok_range hl
  have hp : 0 < ns := by omega
  have hns : ns ≤ 60 := by omega
  unfold brdV
  obtain ⟨V, eV⟩ : ∃ V, ((w.alloc (.cells #[.int .i64 S, .slice (some ⟨g, 0, none⟩) n n, .map (some B), .bool ok, .slice (some ⟨gs, 0, none⟩) ns c1, .slice a2 n c2] 101)).alloc (.cells #[.int .i64 op, .int .i64 f, .int .i64 d] 33)).alloc (.cells #[.int .i64 0, .bool false, .slice none 0 0, .slice none 0 0] 46) = V := ⟨_, rfl⟩
  have sV : V.heap.size = w.heap.size + 1 + 1 + 1 := by rw [← eV]; simp
  have bV : Below w.heap.size w V := by rw [← eV]; exact (by repeat (first | exact Below.refl _ _ | assumption | refine below_alloc ?_ _ | refine Below.setCell ?_ (by first | omega | (simp; done) | (simp; omega)) _ | refine Below.alloc ?_ (by first | omega | (simp; done) | (simp; omega)) _ | refine Below.drew ?_))
  have x1 : Bd6 V w.heap.size S g n B ok (.slice (some ⟨gs, 0, none⟩) ns c1) (.slice a2 n c2) := by rw [← eV]; exact ((Bd6.lay w _ _ _ _ _ _ _).alloc _).alloc _
  have x2 : Box3 V (w.heap.size + 1) 33 (.int .i64 op) (.int .i64 f) (.int .i64 d) := by
    rw [← eV]
    have := (Box3.lay (w.alloc (.cells #[.int .i64 S, .slice (some ⟨g, 0, none⟩) n n, .map (some B), .bool ok, .slice (some ⟨gs, 0, none⟩) ns c1, .slice a2 n c2] 101)) (.int .i64 op) (.int .i64 f) (.int .i64 d) 33).alloc (.cells #[.int .i64 0, .bool false, .slice none 0 0, .slice none 0 0] 46)
    rw [World.size_alloc] at this
    exact this
  have x3 : Blk V (w.heap.size + 1 + 1) 46 4 (fun i => #[.int .i64 0, .bool false, .slice none 0 0, .slice none 0 0][i]!) := by
    rw [← eV]
    have := Blk.new ((w.alloc (.cells #[.int .i64 S, .slice (some ⟨g, 0, none⟩) n n, .map (some B), .bool ok, .slice (some ⟨gs, 0, none⟩) ns c1, .slice a2 n c2] 101)).alloc (.cells #[.int .i64 op, .int .i64 f, .int .i64 d] 33)) #[.int .i64 0, .bool false, .slice none 0 0, .slice none 0 0] 46 (fun i => #[.int .i64 0, .bool false, .slice none 0 0, .slice none 0 0][i]!) (fun i hi => by simp at hi; match i, hi with | 0, _ => rfl | 1, _ => rfl | 2, _ => rfl | 3, _ => rfl)
    simp only [World.size_alloc] at this
    exact this
  have hV := hL.on bV
  have rV := hrow.on bV
  have gV := hg.on bV
  have EV : Hid _ := eV
  clear eV hL hrow hg
  go_enter Try.func62, Try.ntmps62
  go_wp2_with fail
  rw [EV.out]
  refine (copied_any ok gs lo hi ns c1 a2 n c2 X D V hp hns r3 hV).mono ?_
  rintro e w1 ⟨g', k1, a', k2, rfl, L1, hb1⟩
  have y1 := x1.on hb1
  have y2 := x2.on hb1
  have y3 := x3.on hb1
  obtain ⟨d0, d1, d2, d3, d4, d5⟩ := y1.cells
  have z3 := Blk.frozen y1 3
  have z4 := Blk.frozen y1 4
  have z5 := Blk.frozen y1 5
  have R1 := rV.on hb1
  have G1 := gV.on hb1
  have hv1 : w.heap.size + 1 + 1 + 1 ≤ w1.heap.size := by have := hb1.size; omega
  have T1 : Turned w1 (((w1.setCell ⟨w.heap.size, 3, none⟩ (.bool ok)).setCell ⟨w.heap.size, 4, none⟩ (.slice (some ⟨g', 0, none⟩) ns k1)).setCell ⟨w.heap.size, 5, none⟩ (.slice a' n k2)) (· = 101) w.heap.size (w.heap.size + 1) := Turned.of_grown (grown_set (grown_set (grown_set (World.grownBy.refl _ _) _) _) _) (Nat.le_refl _) (by omega) rfl y1
  have zs : (((w1.setCell ⟨w.heap.size, 3, none⟩ (.bool ok)).setCell ⟨w.heap.size, 4, none⟩ (.slice (some ⟨g', 0, none⟩) ns k1)).setCell ⟨w.heap.size, 5, none⟩ (.slice a' n k2)).heap.size = w1.heap.size := by simp [World.setCell]
  have q1 : Bd6 (((w1.setCell ⟨w.heap.size, 3, none⟩ (.bool ok)).setCell ⟨w.heap.size, 4, none⟩ (.slice (some ⟨g', 0, none⟩) ns k1)).setCell ⟨w.heap.size, 5, none⟩ (.slice a' n k2)) w.heap.size S g n B ok (.slice (some ⟨g', 0, none⟩) ns k1) (.slice a' n k2) :=
    (((Blk.set y1 3 (.bool ok)).set 4 (.slice (some ⟨g', 0, none⟩) ns k1)).set 5 (.slice a' n k2)).congr (fun i hi => by match i, hi with | 0, _ => rfl | 1, _ => rfl | 2, _ => rfl | 3, _ => rfl | 4, _ => rfl | 5, _ => rfl)
  have q2 := y2.turned T1 (.inl (by decide))
  have q3 := y3.turned T1 (.inl (by decide))
  have q4 : Row _ g 88 2 n (two F T) := Blk.turned R1 T1 (.inl (by decide))
  have q5 := G1.turned T1 (by decide)
  have q6 : Lst (((w1.setCell ⟨w.heap.size, 3, none⟩ (.bool ok)).setCell ⟨w.heap.size, 4, none⟩ (.slice (some ⟨g', 0, none⟩) ns k1)).setCell ⟨w.heap.size, 5, none⟩ (.slice a' n k2)) V.heap.size w1.heap.size (.slice (some ⟨g', 0, none⟩) ns k1) ns X (.slice a' n k2) n D := ⟨L1.1.turned T1 (.inl (by decide)), L1.2.turned T1 (.inl (by decide))⟩
  have q7 : Below w.heap.size w (((w1.setCell ⟨w.heap.size, 3, none⟩ (.bool ok)).setCell ⟨w.heap.size, 4, none⟩ (.slice (some ⟨g', 0, none⟩) ns k1)).setCell ⟨w.heap.size, 5, none⟩ (.slice a' n k2)) := (below_on bV hb1).trans (T1.below (Nat.le_refl _) (by omega))
  have H1 : Hid _ := q1
  have H2 : Hid _ := q2
  have H3 : Hid _ := q3
  have H4 : Hid _ := q4
  have H5 : Hid _ := q5
  have H6 : Hid _ := q6
  have H7 : Hid _ := q7
  clear q1 q2 q3 q4 q5 q6 q7 T1 y1 y2 y3 R1 G1 L1 hb1 x1 x2 x3 hV rV gV
  go_upto_region 2 with fail
  have EU : ∃ U, ((w1.setCell ⟨w.heap.size, 3, none⟩ (.bool ok)).setCell ⟨w.heap.size, 4, none⟩ (.slice (some ⟨g', 0, none⟩) ns k1)).setCell ⟨w.heap.size, 5, none⟩ (.slice a' n k2) = U := ⟨_, rfl⟩
  obtain ⟨U, hU⟩ := EU
  have u1 := H1.out
  have u2 := H2.out
  have u3 := H3.out
  have u4 := H4.out
  have u5 := H5.out
  have u6 := H6.out
  have u7 := H7.out
  rw [hU] at u1 u2 u3 u4 u5 u6 u7 zs ⊢
  clear H1 H2 H3 H4 H5 H6 H7 hU d0 d1 d2 d3 d4 d5 z3 z4 z5
  have B5 : Blk U (w.heap.size + 1 + 1) 46 4 (fun i => #[.int .i64 0, .bool false, .slice none 0 0, .slice none 0 0][i]!) := u3
  refine wp_region_any (by kernel_rfl) ?_
  refine InC.any (C := fun W => Bd6 W w.heap.size S g n B ok (.slice (some ⟨g', 0, none⟩) ns k1) (.slice a' n k2) ∧ Box3 W (w.heap.size + 1) 33 (.int .i64 op) (.int .i64 f) (.int .i64 d)) _ _ _ _ ?_
  have C0 : Bd6 U.drew w.heap.size S g n B ok (.slice (some ⟨g', 0, none⟩) ns k1) (.slice a' n k2) ∧ Box3 U.drew (w.heap.size + 1) 33 (.int .i64 op) (.int .i64 f) (.int .i64 d) := ⟨u1, u2⟩
  refine InC.take (i := 0) (v := .agg #[.int .i64 S, .slice (some ⟨g, 0, none⟩) n n, .map (some B), .bool ok, .slice (some ⟨g', 0, none⟩) ns k1, .slice a' n k2]) rfl (by kernel_rfl) (by kernel_rfl) (by kernel_rfl) (fun _ _ _ h => h) C0 (Or.inl ⟨by rfl, ?_⟩) ?_
  · intro W hW
    obtain ⟨d0, d1, d2, d3, d4, d5⟩ := hW.1.cells
    go_simp
  refine InC.take (i := 1) (v := .pointer (some ⟨w.heap.size, 0, none⟩)) rfl (by kernel_rfl) (by kernel_rfl) (by kernel_rfl) (fun _ _ _ h => h) C0 (Or.inl ⟨by rfl, ?_⟩) ?_
  · intro W hW
    go_simp
  refine InC.take (i := 2) (v := .agg #[.int .i64 S, .slice (some ⟨g, 0, none⟩) n n]) rfl (by kernel_rfl) (by kernel_rfl) (by kernel_rfl) (fun _ _ _ h => h) C0 (Or.inl ⟨by rfl, ?_⟩) ?_
  · intro W hW
    obtain ⟨d0, d1, d2, d3, d4, d5⟩ := hW.1.cells
    go_simp
  refine InC.take (i := 3) (v := .agg #[.int .i64 op, .int .i64 f, .int .i64 d]) rfl (by kernel_rfl) (by kernel_rfl) (by kernel_rfl) (fun _ _ _ h => h) C0 (Or.inl ⟨by rfl, ?_⟩) ?_
  · intro W hW
    obtain ⟨d0, d1, d2⟩ := hW.2.cells
    go_simp
  refine InC.next1 (i := 4) (by kernel_rfl) (InC.one rfl fun K hK => ?_)
  go_simp
  refine (happensIn_any S op f d n g U.drew r3).mono ?_
  rintro e w2 ⟨rfl, hb2⟩
  have hB2 : Below U.heap.size U w2 := (Below.refl U.heap.size U).drew.trans hb2
  have v1 : Bd6 w2 w.heap.size S g n B ok (.slice (some ⟨g', 0, none⟩) ns k1) (.slice a' n k2) := Bd6.on u1 hB2
  have v2 : Box3 w2 (w.heap.size + 1) 33 (.int .i64 op) (.int .i64 f) (.int .i64 d) := Box3.on u2 hB2
  have v3 := B5.on hB2
  have v4 : Row w2 g 88 2 n (two F T) := Row.on u4 hB2
  have v5 : Grp w2 B (2 * n) (zsAt F T n) := Grp.on u5 hB2
  have v6 : Lst w2 V.heap.size w1.heap.size (.slice (some ⟨g', 0, none⟩) ns k1) ns X (.slice a' n k2) n D := Lst.on u6 hB2
  have v7 := below_on u7 hB2
  refine hK _ _ ⟨v1, v2⟩ ?_
  clear hK K u1 u2 u3 u4 u5 u6 u7 B5
  refine InC.next1 (i := 5) (by kernel_rfl) (InC.one rfl fun K hK => ?_)
  go_simp
  have cc := change_any S op f d g n B V.heap.size w1.heap.size F T ok g' k1 ns a' k2 X D w2 hl hS hc v4 v5 v6
  unfold brdV at cc
  refine cc.mono ?_
  clear cc
  rintro e w3 ⟨rfl, L3, T3⟩
  have t1 := v1.turned T3 (by unfold isSt; decide)
  have t2 := v2.turned T3 (.inl (by unfold isSt; decide))
  have t3 := v3.turned T3 (.inl (by unfold isSt; decide))
  have t5 : Grp w3 B (2 * n) (zsAt F T n) := Grp.turned v5 T3 (by unfold isSt; decide)
  have t7 : Below w.heap.size w w3 := v7.trans (T3.below (by omega) (by have := v7.size; omega))
  have hs3 : w1.heap.size ≤ w3.heap.size := by have := T3.size; have := hB2.size; omega
  refine hK _ _ ⟨t1, t2⟩ ?_
  clear hK K v1 v2 v3 v4 v5 v6 v7 T3 hB2 hb2
  refine InC.next1 (i := 6) (by kernel_rfl) (InC.one rfl fun K hK => ?_)
  go_simp
  refine hK _ _ ⟨t1, t2⟩ ?_
  clear hK K
  refine InC.done (by kernel_rfl) ?_
  obtain ⟨d0, d1, d2, d3, d4, d5⟩ := t1.cells
  go_wp2_with fail
  refine (tell_any S g n B V.heap.size w1.heap.size F T ok g' a' ns k1 k2 _ _ w3 r3 hns t5 L3).mono ?_
  rintro e w4 ⟨rfl, L4, T4⟩
  obtain ⟨d0, d1, d2, d3, d4, d5⟩ := (t1.turned T4 (by decide)).cells
  have s3 := t3.turned T4 (.inl (by decide))
  have s7 : Below w.heap.size w w4 := t7.trans (T4.below (by omega) (by have := t7.size; omega))
  have hs4 : w1.heap.size ≤ w4.heap.size := by have := T4.size; omega
  have f0 := s3.cell (i := 0) (by omega)
  have f1 := s3.cell (i := 1) (by omega)
  have f2 := s3.cell (i := 2) (by omega)
  have f3 := s3.cell (i := 3) (by omega)
  have z0 := s3.frozen 0
  have z1 := s3.frozen 1
  have z2 := s3.frozen 2
  have z3 := s3.frozen 3
  obtain ⟨C, eC⟩ : ∃ C, bhC S n F T X D op f d = C := ⟨_, rfl⟩
  rw [eC]
  have T5 : Turned w4 ((((w4.setCell ⟨w.heap.size + 1 + 1, 0, none⟩ (.int .i64 C)).setCell ⟨w.heap.size + 1 + 1, 1, none⟩ (.bool ok)).setCell ⟨w.heap.size + 1 + 1, 2, none⟩ (.slice (some ⟨g', 0, none⟩) ns k1)).setCell ⟨w.heap.size + 1 + 1, 3, none⟩ (.slice a' n k2)) (· = 46) (w.heap.size + 1 + 1) (w.heap.size + 1 + 1 + 1) := Turned.of_grown (grown_set (grown_set (grown_set (grown_set (World.grownBy.refl _ _) _) _) _) _) (Nat.le_refl _) (by omega) rfl s3
  have r := ((((s3.set 0 (.int .i64 C)).set 1 (.bool ok)).set 2 (.slice (some ⟨g', 0, none⟩) ns k1)).set 3 (.slice a' n k2))
  have g0 := r.cell (i := 0) (by omega)
  have g1 := r.cell (i := 1) (by omega)
  have g2 := r.cell (i := 2) (by omega)
  have g3 := r.cell (i := 3) (by omega)
  simp only [Nat.reduceEqDiff, if_false, if_true] at g0 g1 g2 g3
  have zz : ((((w4.setCell ⟨w.heap.size + 1 + 1, 0, none⟩ (.int .i64 C)).setCell ⟨w.heap.size + 1 + 1, 1, none⟩ (.bool ok)).setCell ⟨w.heap.size + 1 + 1, 2, none⟩ (.slice (some ⟨g', 0, none⟩) ns k1)).setCell ⟨w.heap.size + 1 + 1, 3, none⟩ (.slice a' n k2)).heap.size = w4.heap.size := by simp [World.setCell]
  have L5 : Lst _ V.heap.size w1.heap.size (.slice (some ⟨g', 0, none⟩) ns k1) ns (told1 n F T (bhD S n D op f d) (bhX S n F T X D op f d)) (.slice a' n k2) n (bhD S n D op f d) := ⟨L4.1.turned T5 (.inl (by decide)), L4.2.turned T5 (.inl (by decide))⟩
  have L6 := L5.wide (lo' := w.heap.size) (hi' := ((((w4.setCell ⟨w.heap.size + 1 + 1, 0, none⟩ (.int .i64 C)).setCell ⟨w.heap.size + 1 + 1, 1, none⟩ (.bool ok)).setCell ⟨w.heap.size + 1 + 1, 2, none⟩ (.slice (some ⟨g', 0, none⟩) ns k1)).setCell ⟨w.heap.size + 1 + 1, 3, none⟩ (.slice a' n k2)).heap.size) (by omega) (by rw [zz]; exact hs4)
  have B6 := s7.trans (T5.below (B := w.heap.size) (by omega) (by have := s7.size; omega))
  have HL : Hid _ := L6
  have HB : Hid _ := B6
  have HC : Hid _ := eC
  clear L4 L5 L6 B6 T4 T5 r s3 t1 t2 t3 t5 t7 L3 eC zz
  go_wp2
  exact bodyPost_ret (v := .agg #[.int .i64 C, .bool ok, .slice (some ⟨g', 0, none⟩) ns k1, .slice a' n k2]) (by simp only [results, Try.results62]; simp [go_sem, g0, g1, g2, g3]) rfl ⟨g', k1, a', k2, by rw [HC.out], HL.out, HB.out⟩

end Go.Proofs.Ytlpopfhaephfaab
