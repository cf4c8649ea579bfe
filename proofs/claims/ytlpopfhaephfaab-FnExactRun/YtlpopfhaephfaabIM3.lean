import Derived.Test.YtlpopfhaephfaabIM2
import Derived.Test.YtlpopfhaephfaabST4
import Derived.Test.YtlpopfhaephfaabMkL
import Derived.Test.YtlpopfhaephfaabRC
import Derived.Deep.DeepCutAuto
namespace Go.Proofs.Ytlpopfhaephfaab
open Go.RowKit Go.Maps Go.Sort

theorem lok_wf {S : Int} {n : Nat} {F T : Nat → Int} (h : lokZ S n F T = 0) : (∀ i, i < n → (Lit.int .i64 (F i)).wf = true) ∧ (∀ i, i < n → (Lit.int .i64 (T i)).wf = true) ∧ ∀ i, i < n → F i ≠ T i := by
  obtain ⟨r1, r2, r3⟩ := lok_range h
  exact ⟨fun i hi => WalkArith.wf_i64 (by have := lok_sides h i hi; omega), fun i hi => WalkArith.wf_i64 (by have := lok_sides h i hi; omega), fun i hi => (lok_sides h i hi).2.2.2.2⟩

/-- what the first loop of StateOk asks -/
def part1 (dd : Bool) (x : Sec) : Bool := numOk x && (x.lost || !(mustL x || dd))

theorem secOk_part1 {dd : Bool} {x : Sec} (h : part1 dd x = false) : secOk dd x = false := by
  unfold part1 at h
  unfold secOk
  cases h1 : numOk x
  · simp
  · rw [h1] at h
    simp only [Bool.true_and] at h
    rw [h]; simp

theorem stOk_told {n : Nat} {F T : Nat → Int} {ns : Nat} {X : Nat → Sec} {D : Nat → Bool} (h0 : lokZ (ns : Int) n F T = 0) (h : ∀ k, k < ns → part1 (deadB n F T D (k : Int)) (X k) = true) : stOk (ns : Int) n F T true ns n X D = toldsOk n F T D ns X := by
  unfold stOk toldsOk
  have : (List.range ns).all (fun i => secOk (deadB n F T D (i : Int)) (X i)) = (List.range ns).all (fun i => (X i).told == toldZ (deadB n F T D (i : Int)) (X i)) := by
    rw [Bool.eq_iff_iff, List.all_eq_true, List.all_eq_true]
    refine forall_congr' fun i => forall_congr' fun hi => ?_
    have hp := h i (List.mem_range.1 hi)
    unfold part1 at hp
    simp only [Bool.and_eq_true] at hp
    simp only [secOk, hp.1, hp.2, Bool.true_and, Bool.and_true]
  rw [this]; simp [h0]

theorem all_step' {P : Nat → Prop} {k : Nat} (h : ∀ i, i < k → P i) (hk : P k) : ∀ i, i < k + 1 → P i := by
  intro i hi
  rcases (show i < k ∨ i = k by omega) with h' | rfl
  · exact h i h'
  · exact hk

/-- A board in a block of its own. -/
def Brd (w : World) (b : Nat) (S : Int) (g n B : Nat) (ok : Bool) (v1 v2 : Value) : Prop :=
  w.cell? ⟨b, 0, none⟩ = some (.int .i64 S) ∧ w.cell? ⟨b, 1, none⟩ = some (.slice (some ⟨g, 0, none⟩) n n) ∧ w.cell? ⟨b, 2, none⟩ = some (.map (some B)) ∧ w.cell? ⟨b, 3, none⟩ = some (.bool ok) ∧ w.cell? ⟨b, 4, none⟩ = some v1 ∧ w.cell? ⟨b, 5, none⟩ = some v2

theorem Brd.on {w w' : World} {b : Nat} {S : Int} {g n B : Nat} {ok : Bool} {v1 v2 : Value} (h : Brd w b S g n B ok v1 v2) (hb : Below w.heap.size w w') : Brd w' b S g n B ok v1 v2 := by
  have hl := World.block_lt_of_cell? w ⟨b, 0, none⟩ h.1
  exact ⟨(hb.cell (p := ⟨b, 0, none⟩) hl).trans h.1, (hb.cell (p := ⟨b, 1, none⟩) hl).trans h.2.1, (hb.cell (p := ⟨b, 2, none⟩) hl).trans h.2.2.1, (hb.cell (p := ⟨b, 3, none⟩) hl).trans h.2.2.2.1, (hb.cell (p := ⟨b, 4, none⟩) hl).trans h.2.2.2.2.1, (hb.cell (p := ⟨b, 5, none⟩) hl).trans h.2.2.2.2.2⟩

theorem Brd.lay (w : World) (S : Int) (g n B : Nat) (ok : Bool) (v1 v2 : Value) (e : TypeId) : Brd (w.alloc (.cells #[.int .i64 S, .slice (some ⟨g, 0, none⟩) n n, .map (some B), .bool ok, v1, v2] e)) w.heap.size S g n B ok v1 v2 := by
  refine ⟨?_, ?_, ?_, ?_, ?_, ?_⟩ <;> simp

theorem brd_sets {W : World} {b : Nat} {f : Nat → Value} (h : Blk W b 101 6 f) (S : Int) (g n B : Nat) (ok : Bool) (v1 v2 : Value) :
    Brd ((((((W.setCell ⟨b, 0, none⟩ (.int .i64 S)).setCell ⟨b, 1, none⟩ (.slice (some ⟨g, 0, none⟩) n n)).setCell ⟨b, 2, none⟩ (.map (some B))).setCell ⟨b, 3, none⟩ (.bool ok)).setCell ⟨b, 4, none⟩ v1).setCell ⟨b, 5, none⟩ v2) b S g n B ok v1 v2 ∧
    Turned W ((((((W.setCell ⟨b, 0, none⟩ (.int .i64 S)).setCell ⟨b, 1, none⟩ (.slice (some ⟨g, 0, none⟩) n n)).setCell ⟨b, 2, none⟩ (.map (some B))).setCell ⟨b, 3, none⟩ (.bool ok)).setCell ⟨b, 4, none⟩ v1).setCell ⟨b, 5, none⟩ v2) (· = 101) b (b + 1) := by
  have k := (((((h.set 0 (.int .i64 S)).set 1 (.slice (some ⟨g, 0, none⟩) n n)).set 2 (.map (some B))).set 3 (.bool ok)).set 4 v1).set 5 v2
  refine ⟨⟨k.cell (by omega), k.cell (by omega), k.cell (by omega), k.cell (by omega), k.cell (by omega), k.cell (by omega)⟩, ?_⟩
  exact Turned.of_grown (grown_set (grown_set (grown_set (grown_set (grown_set (grown_set (World.grownBy.refl _ _) _) _) _) _) _) _) (Nat.le_refl _) (by omega) rfl h

/-- what a board's making leaves, the box laid behind the call or ahead of it -/
theorem brd_late {w1 wB : World} {n B : Nat} {F T : Nat → Int} (gB : Grp wB B (2 * n) (zsAt F T n)) (hbB : Below w1.heap.size w1 wB) (S : Int) (g : Nat) (ok : Bool) (v1 v2 : Value) (e : TypeId) :
    Brd (wB.alloc (.cells #[.int .i64 S, .slice (some ⟨g, 0, none⟩) n n, .map (some B), .bool ok, v1, v2] e)) wB.heap.size S g n B ok v1 v2 ∧ Grp (wB.alloc (.cells #[.int .i64 S, .slice (some ⟨g, 0, none⟩) n n, .map (some B), .bool ok, v1, v2] e)) B (2 * n) (zsAt F T n) ∧ Below w1.heap.size w1 (wB.alloc (.cells #[.int .i64 S, .slice (some ⟨g, 0, none⟩) n n, .map (some B), .bool ok, v1, v2] e)) :=
  ⟨Brd.lay _ _ _ _ _ _ _ _ _, gB.alloc _, below_alloc hbB _⟩

theorem brd_early {w1 W wB : World} {n B : Nat} {F T : Nat → Int} {f : Nat → Value} (gB : Grp wB B (2 * n) (zsAt F T n)) (h1 : Below w1.heap.size w1 W) (hbB : Below W.heap.size W wB) (hZ : Blk wB w1.heap.size 101 6 f) (S : Int) (g : Nat) (ok : Bool) (v1 v2 : Value) :
    Brd ((((((wB.setCell ⟨w1.heap.size, 0, none⟩ (.int .i64 S)).setCell ⟨w1.heap.size, 1, none⟩ (.slice (some ⟨g, 0, none⟩) n n)).setCell ⟨w1.heap.size, 2, none⟩ (.map (some B))).setCell ⟨w1.heap.size, 3, none⟩ (.bool ok)).setCell ⟨w1.heap.size, 4, none⟩ v1).setCell ⟨w1.heap.size, 5, none⟩ v2) w1.heap.size S g n B ok v1 v2 ∧
    Grp ((((((wB.setCell ⟨w1.heap.size, 0, none⟩ (.int .i64 S)).setCell ⟨w1.heap.size, 1, none⟩ (.slice (some ⟨g, 0, none⟩) n n)).setCell ⟨w1.heap.size, 2, none⟩ (.map (some B))).setCell ⟨w1.heap.size, 3, none⟩ (.bool ok)).setCell ⟨w1.heap.size, 4, none⟩ v1).setCell ⟨w1.heap.size, 5, none⟩ v2) B (2 * n) (zsAt F T n) ∧
    Below w1.heap.size w1 ((((((wB.setCell ⟨w1.heap.size, 0, none⟩ (.int .i64 S)).setCell ⟨w1.heap.size, 1, none⟩ (.slice (some ⟨g, 0, none⟩) n n)).setCell ⟨w1.heap.size, 2, none⟩ (.map (some B))).setCell ⟨w1.heap.size, 3, none⟩ (.bool ok)).setCell ⟨w1.heap.size, 4, none⟩ v1).setCell ⟨w1.heap.size, 5, none⟩ v2) := by
  obtain ⟨k1, k2⟩ := brd_sets hZ S g n B ok v1 v2
  have hs : w1.heap.size ≤ wB.heap.size := Nat.le_trans h1.size hbB.size
  exact ⟨k1, gB.turned k2 (by decide), (below_on h1 hbB).trans (k2.below (Nat.le_refl _) hs)⟩

set_option maxRecDepth 100000 in
set_option maxHeartbeats 1000000 in
theorem implStateOk_main (S : Int) (g n lo hi : Nat) (F T : Nat → Int) (v : Value) (ns : Nat) (X : Nat → Sec) (D : Nat → Bool) (w : World) (hrow : Row w g 88 2 n (two F T)) (hs : StF w lo hi v true ns n X D) (hl : lokZ S n F T = 0) (hS : (ns : Int) = S) :
    Calls Try.prog 26 #[.agg #[.int .i64 S, .slice (some ⟨g, 0, none⟩) n n], v] w fun e w' => e = .returned (.bool (stOk S n F T true ns n X D)) ∧ Below w.heap.size w w' := by
  obtain ⟨r1, r2, r3⟩ := lok_range hl
  obtain ⟨f1, f2, f3⟩ := lok_wf hl
  obtain ⟨_, _, rfl, hX, hD⟩ := hs
  obtain ⟨a1, c1, rfl, hX0⟩ := id hX
  obtain ⟨a2, c2, rfl, hD0⟩ := id hD
  have hc := fun o o' => implLayoutOk_any S g n F T _ ((hrow.alloc o).alloc o')
  rw [hl] at hc
  subst hS
  have cb : ∀ W, Row W g 88 2 n (two F T) → _ := fun W hr => bySide_any (ns : Int) g n F T W hr r3 f1 f2 f3
  go_enter Try.func26, Try.ntmps26
  go_wp2_with fail
  refine (hc _ _).mono ?_
  rintro e w1 ⟨rfl, hb1⟩
  have B1 := below_on (show Below w.heap.size w _ from (by repeat (first | exact Below.refl _ _ | assumption | refine below_alloc ?_ _ | refine Below.setCell ?_ (by first | omega | (simp; done) | (simp; omega)) _ | refine Below.alloc ?_ (by first | omega | (simp; done) | (simp; omega)) _ | refine Below.drew ?_))) hb1
  have z1 : w.heap.size + 1 < w1.heap.size := by have := hb1.size; simp at this; omega
  have z0 : w.heap.size < w1.heap.size := by omega
  have L0 : w1.cell? ⟨w.heap.size, 0, none⟩ = some (.int .i64 (ns : Int)) := (hb1.cell (p := ⟨w.heap.size, 0, none⟩) (by first | omega | (simp; done) | (simp; omega))).trans (by simp)
  have L1 : w1.cell? ⟨w.heap.size, 1, none⟩ = some (.slice (some ⟨g, 0, none⟩) n n) := (hb1.cell (p := ⟨w.heap.size, 1, none⟩) (by first | omega | (simp; done) | (simp; omega))).trans (by simp)
  have s0 : w1.cell? ⟨w.heap.size + 1, 0, none⟩ = some (.bool true) := (hb1.cell (p := ⟨w.heap.size + 1, 0, none⟩) (by first | omega | (simp; done) | (simp; omega))).trans (by simp)
  have s1 : w1.cell? ⟨w.heap.size + 1, 1, none⟩ = some (.slice a1 ns c1) := (hb1.cell (p := ⟨w.heap.size + 1, 1, none⟩) (by first | omega | (simp; done) | (simp; omega))).trans (by simp)
  have s2 : w1.cell? ⟨w.heap.size + 1, 2, none⟩ = some (.slice a2 n c2) := (hb1.cell (p := ⟨w.heap.size + 1, 2, none⟩) (by first | omega | (simp; done) | (simp; omega))).trans (by simp)
  have R1 := hrow.on B1
  have D1 := hD.on B1
  have X1 := hX.on B1
  clear hb1 hc hrow hD hX f1 f2 f3
  go_upto_region 3 with fail
  go_cut [5] from 33 (fun q wc => ∃ bb B, q = .pointer (some ⟨bb, 0, none⟩) ∧ Brd wc bb (ns : Int) g n B true (.slice a1 ns c1) (.slice a2 n c2) ∧ Grp wc B (2 * n) (zsAt F T n) ∧ Below w1.heap.size w1 wc)
  case first =>
    have Rd := R1.drew
    have z2 : w.heap.size < w1.heap.size + 1 := by omega
    have z3 : w.heap.size + 1 < w1.heap.size + 1 := by omega
    have p1 : ∀ wB, Below w1.heap.size w1 wB → wB.cell? ⟨w.heap.size, 0, none⟩ = some (.int .i64 (ns : Int)) ∧ wB.cell? ⟨w.heap.size, 1, none⟩ = some (.slice (some ⟨g, 0, none⟩) n n) ∧ wB.cell? ⟨w.heap.size + 1, 0, none⟩ = some (.bool true) ∧ wB.cell? ⟨w.heap.size + 1, 1, none⟩ = some (.slice a1 ns c1) ∧ wB.cell? ⟨w.heap.size + 1, 2, none⟩ = some (.slice a2 n c2) ∧ w.heap.size < wB.heap.size ∧ w.heap.size + 1 < wB.heap.size := fun wB hb =>
      ⟨(hb.cell (p := ⟨w.heap.size, 0, none⟩) z0).trans L0, (hb.cell (p := ⟨w.heap.size, 1, none⟩) z0).trans L1, (hb.cell (p := ⟨w.heap.size + 1, 0, none⟩) z1).trans s0, (hb.cell (p := ⟨w.heap.size + 1, 1, none⟩) z1).trans s1, (hb.cell (p := ⟨w.heap.size + 1, 2, none⟩) z1).trans s2, Nat.lt_of_lt_of_le z0 hb.size, Nat.lt_of_lt_of_le z1 hb.size⟩
    obtain ⟨Z, eZ⟩ : ∃ Z, Z = Obj.cells #[.int .i64 0, .slice none 0 0, .map none, .bool false, .slice none 0 0, .slice none 0 0] 101 := ⟨_, rfl⟩
    have bZ : Blk (w1.alloc Z).drew w1.heap.size 101 6 (fun i => #[.int .i64 0, .slice none 0 0, .map none, .bool false, .slice none 0 0, .slice none 0 0][i]!) := by
      rw [eZ]; exact Blk.new w1 #[.int .i64 0, .slice none 0 0, .map none, .bool false, .slice none 0 0, .slice none 0 0] _ _ (fun i hi => by simp at hi; match i, hi with | 0, _ => rfl | 1, _ => rfl | 2, _ => rfl | 3, _ => rfl | 4, _ => rfl | 5, _ => rfl)
    have q1 : Below w1.heap.size w1 (w1.alloc Z).drew := (below_alloc (Below.refl _ _) _).drew
    have p2 : ∀ wB, Below (w1.alloc Z).drew.heap.size (w1.alloc Z).drew wB → (wB.cell? ⟨w.heap.size, 0, none⟩ = some (.int .i64 (ns : Int)) ∧ wB.cell? ⟨w.heap.size, 1, none⟩ = some (.slice (some ⟨g, 0, none⟩) n n) ∧ wB.cell? ⟨w.heap.size + 1, 0, none⟩ = some (.bool true) ∧ wB.cell? ⟨w.heap.size + 1, 1, none⟩ = some (.slice a1 ns c1) ∧ wB.cell? ⟨w.heap.size + 1, 2, none⟩ = some (.slice a2 n c2)) ∧ Blk wB w1.heap.size 101 6 (fun i => #[.int .i64 0, .slice none 0 0, .map none, .bool false, .slice none 0 0, .slice none 0 0][i]!) := fun wB hb => by
      have hq := below_on q1 hb
      exact ⟨⟨(hq.cell (p := ⟨w.heap.size, 0, none⟩) z0).trans L0, (hq.cell (p := ⟨w.heap.size, 1, none⟩) z0).trans L1, (hq.cell (p := ⟨w.heap.size + 1, 0, none⟩) z1).trans s0, (hq.cell (p := ⟨w.heap.size + 1, 1, none⟩) z1).trans s1, (hq.cell (p := ⟨w.heap.size + 1, 2, none⟩) z1).trans s2⟩, bZ.on hb⟩
    have Ra := (R1.alloc Z).drew
    subst eZ
    have P1 : Hid _ := p1
    have P2 : Hid _ := p2
    have Q1 : Hid _ := q1
    clear p1 p2 q1 bZ
    refine wp_region_any (by kernel_rfl) ?_
    refine InC.any (C := fun W => Below w1.heap.size w1 W) _ _ _ _ ?_
    have C0 : Below w1.heap.size w1 w1.drew := (Below.refl _ _).drew
    refine InC.take (i := 0) (v := .agg #[.int .i64 (ns : Int), .slice (some ⟨g, 0, none⟩) n n]) rfl (by kernel_rfl) (by kernel_rfl) (by kernel_rfl) (fun _ _ _ h => h) C0 (Or.inl ⟨by rfl, ?_⟩) ?_
    · intro W hW
      obtain ⟨k0, k1, k2, k3, k4, _, _⟩ := P1.out W hW
      go_simp
    refine InC.take (i := 1) (v := .agg #[.int .i64 (ns : Int), .slice (some ⟨g, 0, none⟩) n n]) rfl (by kernel_rfl) (by kernel_rfl) (by kernel_rfl) (fun _ _ _ h => h) C0 (Or.inl ⟨by rfl, ?_⟩) ?_
    · intro W hW
      obtain ⟨k0, k1, k2, k3, k4, _, _⟩ := P1.out W hW
      go_simp
    refine InC.take (i := 3) (v := .agg #[.bool true, .slice a1 ns c1, .slice a2 n c2]) rfl (by kernel_rfl) (by kernel_rfl) (by kernel_rfl) (fun _ _ _ h => h) C0 (Or.inl ⟨by rfl, ?_⟩) ?_
    · intro W hW
      obtain ⟨k0, k1, k2, k3, k4, _, _⟩ := P1.out W hW
      go_simp
    refine InC.next2 (i := 2) (j := 5) (by kernel_rfl) (InC.one rfl fun K hK => ?_) (InC.one rfl fun K hK => ?_)
    · go_simp
      refine (cb _ Rd).mono ?_
      rintro e wB ⟨B, rfl, hB0, gB, hbB⟩
      have CB : Below w1.heap.size w1 wB := below_on C0 hbB
      refine hK _ _ CB ?_
      clear hK K
      refine InC.take (i := 4) (v := .agg #[.int .i64 (ns : Int), .slice (some ⟨g, 0, none⟩) n n, .map (some B), .bool true, .slice a1 ns c1, .slice a2 n c2]) rfl (by kernel_rfl) (by kernel_rfl) (by kernel_rfl) (fun _ _ _ h => h) CB (Or.inl ⟨by rfl, ?_⟩) ?_
      · intro W hW
        go_simp
      refine InC.next1 (i := 5) (by kernel_rfl) (InC.one rfl fun K hK => ?_)
      go_simp
      refine hK _ _ (below_alloc CB _) ?_
      clear hK K
      refine InC.next1 (i := 6) (by kernel_rfl) (InC.one rfl fun K hK => ?_)
      go_simp
      refine hK _ _ (below_alloc CB _) ?_
      clear hK K
      refine InC.done (by kernel_rfl) ?_
      go_wp2_with fail
      go_meet
      case rel => exact ⟨_, _, rfl, brd_late gB CB _ _ _ _ _ _⟩
    · go_simp
      refine hK _ _ Q1.out ?_
      clear hK K
      refine InC.next1 (i := 2) (by kernel_rfl) (InC.one rfl fun K hK => ?_)
      go_simp
      refine (cb _ Ra).mono ?_
      rintro e wB ⟨B, rfl, hB0, gB, hbB⟩
      have CB : Below w1.heap.size w1 wB := below_on Q1.out hbB
      have hZ := (P2.out _ hbB).2
      have y0 := hZ.cell (i := 0) (by omega)
      have y1 := hZ.cell (i := 1) (by omega)
      have y2 := hZ.cell (i := 2) (by omega)
      have y3 := hZ.cell (i := 3) (by omega)
      have y4 := hZ.cell (i := 4) (by omega)
      have y5 := hZ.cell (i := 5) (by omega)
      have x0 := hZ.frozen 0
      have x1 := hZ.frozen 1
      have x2 := hZ.frozen 2
      have x3 := hZ.frozen 3
      have x4 := hZ.frozen 4
      have x5 := hZ.frozen 5
      refine hK _ _ CB ?_
      clear hK K
      refine InC.next1 (i := 4) (by kernel_rfl) (InC.one rfl fun K hK => ?_)
      go_simp
      refine hK _ _ CB ?_
      clear hK K
      refine InC.next1 (i := 6) (by kernel_rfl) (InC.one rfl fun K hK => ?_)
      go_simp
      have E := brd_early gB Q1.out hbB hZ (ns : Int) g true (.slice a1 ns c1) (.slice a2 n c2)
      refine hK _ _ E.2.2 ?_
      clear hK K
      refine InC.done (by kernel_rfl) ?_
      go_wp2_with fail
      go_meet
      case rel => exact ⟨_, _, rfl, E⟩
  case rest =>
    obtain ⟨bb, B, rfl, hbd, gB, hbB⟩ := hcut
    have BB := below_on B1 hbB
    have s1' := (hbB.cell (p := ⟨w.heap.size + 1, 1, none⟩) z1).trans s1
    have RB := R1.on hbB
    have DB := D1.on hbB
    have XB := X1.on hbB
    have zc : w.heap.size + 1 < wc.heap.size := Nat.lt_of_lt_of_le z1 hbB.size
    clear L0 L1 s0 s1 s2 R1 D1 X1 B1 hbB hX0 hD0 z0 z1 cb
    go_wp2
    go_loopw [41] (fun i wr => ∃ k : Nat, k ≤ ns ∧ i = .int .i64 k ∧ Below wc.heap.size wc wr ∧ ∀ j, j < k → part1 (deadB n F T D (j : Int)) (X j) = true) (fun i _ => ns - (intOf i).toNat)
    case atStart => exact ⟨0, Nat.zero_le _, rfl, Below.refl _ _, fun j hj => by omega⟩
    case round =>
      obtain ⟨k, hk, rfl, hbel, hgood⟩ := hrel
      by_cases hlt : k < ns
      · obtain ⟨ao, cap, he, hX0⟩ := id XB
        cases he
        rcases hX0 with hX0 | ⟨gx, mx, fx, rfl, _, _, x2, x3, x4⟩
        · omega
        obtain ⟨e0, e1, e2, e3, e4⟩ := five (x3.on hbel) x2 hlt x4
        have hk1 : (k : Int) < (ns : Int) := by omega
        obtain ⟨x, ex⟩ : ∃ x, X k = x := ⟨_, rfl⟩
        obtain ⟨dd, ed⟩ : ∃ dd, deadB n F T D (k : Int) = dd := ⟨_, rfl⟩
        rw [ex] at e0 e1 e2 e3 e4
        obtain ⟨b0, b1, b2, b3, b4⟩ := box5 wr x 93
        have BW : Below wc.heap.size wc (wr.alloc (.cells #[.int .i64 x.told, .int .i64 x.count, .bool x.lost, .bool x.sweep, .int .i64 x.last] 93)) := below_alloc hbel _
        have HG : Hid (∀ j, j < k → part1 (deadB n F T D (j : Int)) (X j) = true) := hgood
        have HX : Hid (X k = x) := ex
        have HD : Hid (deadB n F T D (k : Int) = dd) := ed
        have HNO : Hid (part1 dd x = false → stOk (ns : Int) n F T true ns n X D = false) := fun h => stOk_no hlt (by rw [HD.out, HX.out]; exact secOk_part1 h)
        have hbd1 := hbd.on BW
        have dc : ∀ V, Below wc.heap.size wc V → _ := fun V hV => deadAround_any (ns : Int) (k : Int) g n B lo hi F T true (some ⟨gx, 0, none⟩) a2 ns c1 c2 D V r3 (by omega) (by omega) (gB.on hV) (DB.on hV)
        rw [ed] at dc
        have DC : Hid _ := dc
        have HBB : Hid (Below w.heap.size w wc) := BB
        have zW : wr.heap.size < wr.heap.size + 1 := by omega
        clear hgood ex ed x3 x4 dc RB DB XB gB
        go_wp2_with fail
        refine (numbersOk_any x _).mono ?_
        rintro e w2 ⟨rfl, hb2⟩
        have B2 := BW.trans (hb2.mono BW.size)
        obtain ⟨d0, d1, d2, d3, d4, d5⟩ := hbd1.on hb2
        have f0 := (hb2.cell (p := ⟨wr.heap.size, 0, none⟩) (by simp)).trans b0
        have f1 := (hb2.cell (p := ⟨wr.heap.size, 1, none⟩) (by simp)).trans b1
        have f2 := (hb2.cell (p := ⟨wr.heap.size, 2, none⟩) (by simp)).trans b2
        have f3 := (hb2.cell (p := ⟨wr.heap.size, 3, none⟩) (by simp)).trans b3
        have f4 := (hb2.cell (p := ⟨wr.heap.size, 4, none⟩) (by simp)).trans b4
        have zw2 : wr.heap.size < w2.heap.size := by have := hb2.size; simp at this; omega
        clear hb2 b0 b1 b2 b3 b4 hbd1 BW hbel e0 e1 e2 e3 e4
        cases hnum : numOk x
        · have hno : Hid (stOk (ns : Int) n F T true ns n X D = false) := HNO.out (by simp [part1, hnum])
          go_wp2
          go_ret
          exact ⟨by rw [hno.out]; rfl, below_on HBB.out B2⟩
        · obtain ⟨told, count, lost, sweep, last⟩ := x
          simp only at f0 f1 f2 f3 f4
          cases lost
          · cases dd
            · go_wp2_with fail
              refine (DC.out _ B2).mono ?_
              rintro e w3 ⟨rfl, hb3⟩
              have B3 := B2.trans (hb3.mono B2.size)
              have f0 := (hb3.cell (p := ⟨wr.heap.size, 0, none⟩) zw2).trans f0
              have f1 := (hb3.cell (p := ⟨wr.heap.size, 1, none⟩) zw2).trans f1
              have f2 := (hb3.cell (p := ⟨wr.heap.size, 2, none⟩) zw2).trans f2
              have f3 := (hb3.cell (p := ⟨wr.heap.size, 3, none⟩) zw2).trans f3
              have f4 := (hb3.cell (p := ⟨wr.heap.size, 4, none⟩) zw2).trans f4
              have cm := mustBeLost_any ⟨told, count, false, sweep, last⟩ w3
              simp only at cm
              obtain ⟨ml, em⟩ : ∃ ml, mustL ⟨told, count, false, sweep, last⟩ = ml := ⟨_, rfl⟩
              have HM : Hid (mustL ⟨told, count, false, sweep, last⟩ = ml) := em
              rw [em] at cm
              clear hb3 d0 d1 d2 d3 d4 d5 em
              go_wp2_with fail
              refine cm.mono ?_
              rintro e w4 ⟨rfl, hb4⟩
              have B4 := B3.trans (hb4.mono B3.size)
              cases ml
              · have hy : Hid (part1 (deadB n F T D (k : Int)) (X k) = true) := by show part1 _ _ = _; rw [HD.out, HX.out]; simp [part1, hnum, HM.out]
                go_wp2
                go_roundw
                case rel => exact ⟨k + 1, by omega, by go_num, B4, all_step' HG.out hy.out⟩
                case measure => simp [intOf]; omega
              · have hno : Hid (stOk (ns : Int) n F T true ns n X D = false) := HNO.out (by simp [part1, hnum, HM.out])
                go_wp2
                go_ret
                exact ⟨by rw [hno.out]; rfl, below_on HBB.out B4⟩
            · have hno : Hid (stOk (ns : Int) n F T true ns n X D = false) := HNO.out (by simp [part1, hnum])
              go_wp2_with fail
              refine (DC.out _ B2).mono ?_
              rintro e w3 ⟨rfl, hb3⟩
              have B3 := B2.trans (hb3.mono B2.size)
              go_wp2
              go_ret
              exact ⟨by rw [hno.out]; rfl, below_on HBB.out B3⟩
          · have hy : Hid (part1 (deadB n F T D (k : Int)) (X k) = true) := by show part1 _ _ = _; rw [HD.out, HX.out]; simp [part1, hnum]
            go_wp2
            go_roundw
            case rel => exact ⟨k + 1, by omega, by go_num, B2, all_step' HG.out hy.out⟩
            case measure => simp [intOf]; omega
      · have hall : Hid (stOk (ns : Int) n F T true ns n X D = toldsOk n F T D ns X) := stOk_told hl (fun j hj => hgood j (by omega))
        obtain ⟨d0, d1, d2, d3, d4, d5⟩ := hbd.on hbel
        have t1 := (hbel.cell (p := ⟨w.heap.size + 1, 1, none⟩) zc).trans s1'
        have ct := toldIs_any (ns : Int) g n B lo hi lo hi F T true a1 a2 ns c1 c2 X D wr r3 (by omega) (gB.on hbel) (XB.on hbel) (DB.on hbel)
        have BZ := below_on BB hbel
        clear hgood RB DB XB gB hbd s1'
        go_wp2_with fail
        refine ct.mono ?_
        rintro e w5 ⟨rfl, hb5⟩
        go_wp2
        go_ret
        exact ⟨by rw [hall.out]; rfl, below_on BZ hb5⟩

end Go.Proofs.Ytlpopfhaephfaab
