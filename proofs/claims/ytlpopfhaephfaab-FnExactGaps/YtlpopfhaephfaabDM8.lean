import Derived.Test.YtlpopfhaephfaabDM7
namespace Go.Proofs.Ytlpopfhaephfaab
open Go.RowKit Go.Maps Go.Sort

theorem Lst.wide {w : World} {lo hi lo' hi' ns n : Nat} {v1 v2 : Value} {X : Nat → Sec} {D : Nat → Bool} (h : Lst w lo hi v1 ns X v2 n D) (h1 : lo' ≤ lo) (h2 : hi ≤ hi') : Lst w lo' hi' v1 ns X v2 n D := ⟨h.1.wide h1 h2, h.2.wide h1 h2⟩

set_option maxRecDepth 100000 in
set_option maxHeartbeats 1000000 in
theorem copied_any (ok : Bool) (gs lo hi ns c1 : Nat) (a2 : Option Addr) (n c2 : Nat) (X : Nat → Sec) (D : Nat → Bool) (w : World) (hp : 0 < ns) (hns : ns ≤ 60) (hn : n ≤ 120) (hL : Lst w lo hi (.slice (some ⟨gs, 0, none⟩) ns c1) ns X (.slice a2 n c2) n D) :
    Calls Try.prog 92 #[.agg #[.bool ok, .slice (some ⟨gs, 0, none⟩) ns c1, .slice a2 n c2]] w fun e w' => ∃ g' k1 a' k2, e = .returned (.agg #[.bool ok, .slice (some ⟨g', 0, none⟩) ns k1, .slice a' n k2]) ∧ Lst w' w.heap.size w'.heap.size (.slice (some ⟨g', 0, none⟩) ns k1) ns X (.slice a' n k2) n D ∧ Below w.heap.size w w' := by
  obtain ⟨V, eV⟩ : ∃ V, (w.alloc (.cells #[.bool ok, .slice (some ⟨gs, 0, none⟩) ns c1, .slice a2 n c2] 44)).alloc (.cells #[.bool false, .slice none 0 0, .slice none 0 0] 44) = V := ⟨_, rfl⟩
  have sV : V.heap.size = w.heap.size + 1 + 1 := by rw [← eV]; simp
  have bV : Below w.heap.size w V := by rw [← eV]; exact (by repeat (first | exact Below.refl _ _ | assumption | refine below_alloc ?_ _ | refine Below.setCell ?_ (by first | omega | (simp; done) | (simp; omega)) _ | refine Below.alloc ?_ (by first | omega | (simp; done) | (simp; omega)) _ | refine Below.drew ?_))
  have x1 : Box3 V w.heap.size 44 (.bool ok) (.slice (some ⟨gs, 0, none⟩) ns c1) (.slice a2 n c2) := by rw [← eV]; exact (Box3.lay w _ _ _ _).alloc _
  have x2 : Box3 V (w.heap.size + 1) 44 (.bool false) (.slice none 0 0) (.slice none 0 0) := by
    rw [← eV]
    have := Box3.lay (w.alloc (.cells #[.bool ok, .slice (some ⟨gs, 0, none⟩) ns c1, .slice a2 n c2] 44)) (.bool false) (.slice none 0 0) (.slice none 0 0) 44
    rw [World.size_alloc] at this
    exact this
  have cS := fun W (hW : Below V.heap.size V W) => cloneS_any gs lo hi ns c1 X W hp hns ((hL.on (below_on bV hW)).1)
  have cB := fun W (hW : Below V.heap.size V W) => cloneB_any a2 lo hi n c2 D W hn ((hL.on (below_on bV hW)).2)
  have EV : Hid _ := eV
  clear eV hL
  go_enter Try.func92, Try.ntmps92
  go_upto_region 1 with fail
  rw [EV.out]
  refine wp_region_any (by kernel_rfl) ?_
  refine InC.any (C := fun W => Box3 W w.heap.size 44 (.bool ok) (.slice (some ⟨gs, 0, none⟩) ns c1) (.slice a2 n c2)) _ _ _ _ ?_
  have B0 : Below V.heap.size V V.drew := (Below.refl _ _).drew
  have C0 := x1.drew
  refine InC.take (i := 0) (v := .pointer (some ⟨w.heap.size, 0, none⟩)) rfl (by kernel_rfl) (by kernel_rfl) (by kernel_rfl) (fun _ _ _ h => h) C0 (Or.inl ⟨by rfl, ?_⟩) ?_
  · intro W hW
    go_simp
  refine InC.take (i := 1) (v := .bool ok) rfl (by kernel_rfl) (by kernel_rfl) (by kernel_rfl) (fun _ _ _ h => h) C0 (Or.inl ⟨by rfl, ?_⟩) ?_
  · intro W hW
    obtain ⟨k0, k1, k2⟩ := Box3.cells hW
    go_simp
  refine InC.take (i := 2) (v := .pointer (some ⟨w.heap.size, 1, none⟩)) rfl (by kernel_rfl) (by kernel_rfl) (by kernel_rfl) (fun _ _ _ h => h) C0 (Or.inl ⟨by rfl, ?_⟩) ?_
  · intro W hW
    go_simp
  refine InC.take (i := 3) (v := .slice (some ⟨gs, 0, none⟩) ns c1) rfl (by kernel_rfl) (by kernel_rfl) (by kernel_rfl) (fun _ _ _ h => h) C0 (Or.inl ⟨by rfl, ?_⟩) ?_
  · intro W hW
    obtain ⟨k0, k1, k2⟩ := Box3.cells hW
    go_simp
  refine InC.take (i := 5) (v := .pointer (some ⟨w.heap.size, 2, none⟩)) rfl (by kernel_rfl) (by kernel_rfl) (by kernel_rfl) (fun _ _ _ h => h) C0 (Or.inl ⟨by rfl, ?_⟩) ?_
  · intro W hW
    go_simp
  refine InC.take (i := 6) (v := .slice a2 n c2) rfl (by kernel_rfl) (by kernel_rfl) (by kernel_rfl) (fun _ _ _ h => h) C0 (Or.inl ⟨by rfl, ?_⟩) ?_
  · intro W hW
    obtain ⟨k0, k1, k2⟩ := Box3.cells hW
    go_simp
  refine InC.next1 (i := 4) (by kernel_rfl) (InC.one rfl fun K hK => ?_)
  go_simp
  refine (cS _ B0).mono ?_
  rintro e w1 ⟨g', k1, rfl, s1, hb1⟩
  have B1 := below_on B0 hb1
  refine hK _ _ (x1.on B1) ?_
  clear hK K
  refine InC.next1 (i := 7) (by kernel_rfl) (InC.one rfl fun K hK => ?_)
  go_simp
  refine (cB _ B1).mono ?_
  rintro e w2 ⟨a', k2, rfl, s2, hb2⟩
  have B2 := below_on B1 hb2
  refine hK _ _ (x1.on B2) ?_
  clear hK K
  refine InC.next1 (i := 8) (by kernel_rfl) (InC.one rfl fun K hK => ?_)
  go_simp
  refine hK _ _ (x1.on B2) ?_
  clear hK K
  have y2 := x2.on B2
  obtain ⟨y0, y1, y2'⟩ := y2.cells
  have z0 := Blk.frozen y2 0
  have z1 := Blk.frozen y2 1
  have z2 := Blk.frozen y2 2
  have hv1 : w.heap.size + 1 + 1 ≤ w1.heap.size := by have := B1.size; omega
  have hv2 : w1.heap.size ≤ w2.heap.size := hb2.size
  have hv0 : V.drew.heap.size = w.heap.size + 1 + 1 := sV
  have T2 : Turned w2 (((w2.setCell ⟨w.heap.size + 1, 0, none⟩ (.bool ok)).setCell ⟨w.heap.size + 1, 1, none⟩ (.slice (some ⟨g', 0, none⟩) ns k1)).setCell ⟨w.heap.size + 1, 2, none⟩ (.slice a' n k2)) (· = 44) (w.heap.size + 1) (w.heap.size + 1 + 1) := Turned.of_grown (grown_set (grown_set (grown_set (World.grownBy.refl _ _) _) _) _) (Nat.le_refl _) (by omega) rfl y2
  have r := (((Blk.set y2 0 (.bool ok)).set 1 (.slice (some ⟨g', 0, none⟩) ns k1)).set 2 (.slice a' n k2))
  have r0 := r.cell (i := 0) (by omega)
  have r1 := r.cell (i := 1) (by omega)
  have r2 := r.cell (i := 2) (by omega)
  simp only [Nat.reduceEqDiff, if_false, if_true] at r0 r1 r2
  rw [hv0] at s1
  have L2 : Lst w2 w.heap.size w2.heap.size (.slice (some ⟨g', 0, none⟩) ns k1) ns X (.slice a' n k2) n D := ⟨(s1.on hb2).wide (by omega) hv2, s2.wide (by omega) (Nat.le_refl _)⟩
  have zs : (((w2.setCell ⟨w.heap.size + 1, 0, none⟩ (.bool ok)).setCell ⟨w.heap.size + 1, 1, none⟩ (.slice (some ⟨g', 0, none⟩) ns k1)).setCell ⟨w.heap.size + 1, 2, none⟩ (.slice a' n k2)).heap.size = w2.heap.size := by simp [World.setCell]
  have L3 : Lst (((w2.setCell ⟨w.heap.size + 1, 0, none⟩ (.bool ok)).setCell ⟨w.heap.size + 1, 1, none⟩ (.slice (some ⟨g', 0, none⟩) ns k1)).setCell ⟨w.heap.size + 1, 2, none⟩ (.slice a' n k2)) w.heap.size w2.heap.size (.slice (some ⟨g', 0, none⟩) ns k1) ns X (.slice a' n k2) n D := ⟨L2.1.turned T2 (.inl (by decide)), L2.2.turned T2 (.inl (by decide))⟩
  have B3 : Below w.heap.size w (((w2.setCell ⟨w.heap.size + 1, 0, none⟩ (.bool ok)).setCell ⟨w.heap.size + 1, 1, none⟩ (.slice (some ⟨g', 0, none⟩) ns k1)).setCell ⟨w.heap.size + 1, 2, none⟩ (.slice a' n k2)) := (below_on bV B2).trans (T2.below (by omega) (by omega))
  have x3 := (x1.on B2).turned T2 (.inr (.inl (by omega)))
  have HL : Hid _ := L3
  have HB : Hid _ := B3
  have HX : Hid _ := x3
  rw [← zs] at HL
  clear L2 L3 B3 x3 T2 r y2 s1 s2 zs
  refine InC.next1 (i := 9) (by kernel_rfl) (InC.one rfl fun K hK => ?_)
  go_simp
  refine hK _ _ HX.out ?_
  clear hK K
  refine InC.done (by kernel_rfl) ?_
  go_wp2
  exact bodyPost_ret (v := .agg #[.bool ok, .slice (some ⟨g', 0, none⟩) ns k1, .slice a' n k2]) (by simp only [results, Try.results92]; simp [go_sem, r0, r1, r2]) rfl ⟨g', k1, a', k2, rfl, HL.out, HB.out⟩

end Go.Proofs.Ytlpopfhaephfaab
