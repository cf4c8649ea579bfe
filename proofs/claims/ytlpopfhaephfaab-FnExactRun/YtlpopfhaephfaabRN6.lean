import Derived.Test.YtlpopfhaephfaabRN4
import Derived.Test.YtlpopfhaephfaabDM14
namespace Go.Proofs.Ytlpopfhaephfaab
open Go.RowKit Go.Maps Go.Sort

theorem specRun_bad (S : Int) (g n m ce : Nat) (ae : Option Addr) (F T : Nat → Int) (w : World) (hm : m ≤ 1048576) (hrow : Row w g 88 2 n (two F T)) (hb : ¬ (lokZ S n F T = 0 ∧ m ≤ 2000)) :
    Calls Try.prog 28 #[.agg #[.int .i64 S, .slice (some ⟨g, 0, none⟩) n n], .slice ae m ce] w fun e w' => e = .returned (.slice none 0 0) ∧ Below w.heap.size w w' := by
  have kc := fun o => specLayoutOk_any S g n F T _ (hrow.alloc o)
  go_enter Try.func28, Try.ntmps28
  go_wp2_with fail
  refine (kc _).mono ?_
  rintro e w1 ⟨rfl, hb1⟩
  have B1 := below_on (show Below w.heap.size w _ from (by repeat (first | exact Below.refl _ _ | assumption | refine below_alloc ?_ _ | refine Below.setCell ?_ (by first | omega | (simp; done) | (simp; omega)) _ | refine Below.alloc ?_ (by first | omega | (simp; done) | (simp; omega)) _ | refine Below.drew ?_))) hb1
  by_cases hl : lokZ S n F T = 0
  · have h2 : 2000 < (m : Int) := by
      have : ¬ m ≤ 2000 := fun h => hb ⟨hl, h⟩
      omega
    rw [hl]
    go_wp2
    go_ret
    exact ⟨rfl, B1⟩
  · have h1 : (lokZ S n F T == 0) = false := by simp [hl]
    go_wp2
    go_ret
    exact ⟨rfl, B1⟩

theorem specBegin_nice (S : Int) (g n ns : Nat) (F T : Nat → Int) (w : World) (hrow : Row w g 88 2 n (two F T)) (hl : lokZ S n F T = 0) (hS : (ns : Int) = S) :
    Calls Try.prog 74 #[.agg #[.int .i64 S, .slice (some ⟨g, 0, none⟩) n n]] w fun e w' => ∃ a1 c1 a2 c2, e = .returned (.agg #[.bool true, .slice a1 ns c1, .slice a2 n c2]) ∧ Lst w' w.heap.size w'.heap.size (.slice a1 ns c1) ns (fun _ => sec0) (.slice a2 n c2) n (fun _ => false) ∧ Below w.heap.size w w' := by
  refine (specBegin_ok S g n F T w hrow hl).mono ?_
  rintro e w' ⟨v, rfl, hB, hb⟩
  unfold BegF at hB
  simp only [if_true] at hB
  rw [show S.toNat = ns by omega] at hB
  obtain ⟨_, _, rfl, h1, h2⟩ := hB
  obtain ⟨a1, c1, rfl, _⟩ := id h1
  obtain ⟨a2, c2, rfl, _⟩ := id h2
  exact ⟨a1, c1, a2, c2, rfl, ⟨h1, h2⟩, hb⟩

/-- a Done's box: its state is written -/
theorem box4_state {W : World} {b : Nat} {C : Int} {ok ok' : Bool} {v1 v2 v1' v2' : Value} (h : Box4 W b C ok v1 v2) :
    Box4 (((W.setCell ⟨b, 1, none⟩ (.bool ok')).setCell ⟨b, 2, none⟩ v1').setCell ⟨b, 3, none⟩ v2') b C ok' v1' v2' ∧
    Turned W (((W.setCell ⟨b, 1, none⟩ (.bool ok')).setCell ⟨b, 2, none⟩ v1').setCell ⟨b, 3, none⟩ v2') (· = 46) b (b + 1) := by
  have k := ((Blk.set h 1 (.bool ok')).set 2 v1').set 3 v2'
  refine ⟨k.congr (fun i hi => by match i, hi with | 0, _ => rfl | 1, _ => rfl | 2, _ => rfl | 3, _ => rfl), ?_⟩
  exact Turned.of_grown (grown_set (grown_set (grown_set (World.grownBy.refl _ _) _) _) _) (Nat.le_refl _) (by omega) rfl h

theorem box3_all {W : World} {b : Nat} {e : TypeId} {x y z x' y' z' : Value} (h : Box3 W b e x y z) :
    Box3 (((W.setCell ⟨b, 0, none⟩ x').setCell ⟨b, 1, none⟩ y').setCell ⟨b, 2, none⟩ z') b e x' y' z' ∧
    Turned W (((W.setCell ⟨b, 0, none⟩ x').setCell ⟨b, 1, none⟩ y').setCell ⟨b, 2, none⟩ z') (· = e) b (b + 1) := by
  have k := ((Blk.set h 0 x').set 1 y').set 2 z'
  refine ⟨k.congr (fun i hi => by match i, hi with | 0, _ => rfl | 1, _ => rfl | 2, _ => rfl), ?_⟩
  exact Turned.of_grown (grown_set (grown_set (grown_set (World.grownBy.refl _ _) _) _) _) (Nat.le_refl _) (by omega) rfl h

theorem DnF.wide {w : World} {lo lo' hi m ns nd : Nat} {v : Value} {C : Nat → Int} {B : Nat → Bool} {X : Nat → Nat → Sec} {D : Nat → Nat → Bool} (h : DnF w lo hi v m ns nd C B X D) (h1 : lo' ≤ lo) : DnF w lo' hi v m ns nd C B X D := by
  obtain ⟨A1, A2, L, a1, a2, a3, a4⟩ := h
  exact ⟨A1, A2, L, a1.wide h1 (Nat.le_refl _), by omega, a3, a4⟩

set_option maxRecDepth 100000 in
set_option maxHeartbeats 4000000 in
theorem specRun_ok (S : Int) (g n le he m ns : Nat) (F T : Nat → Int) (P : Nat → Nat → Int) (ve : Value) (w : World) (hrow : Row w g 88 2 n (two F T)) (hev : SlF w 33 3 le he ve m (evs P)) (hl : lokZ S n F T = 0) (hS : (ns : Int) = S) (hm : m ≤ 2000) :
    Calls Try.prog 28 #[.agg #[.int .i64 S, .slice (some ⟨g, 0, none⟩) n n], ve] w fun e w' => ∃ u, e = .returned u ∧ DnF w' w.heap.size w'.heap.size u m ns n (runC S n F T P) (fun _ => true) (fun k => runX S n F T P (k + 1)) (fun k => runD S n F T P (k + 1)) ∧ Below w.heap.size w w' := by
  obtain ⟨r1, r2, r3⟩ := lok_range hl
  have hp : 0 < ns := by omega
  have hm1 : ¬ 2000 < (m : Int) := by omega
  obtain ⟨ae, ce, rfl, he0⟩ := id hev
  obtain ⟨i0, hi, hz0, hz1, hz2⟩ := info_parts Try.infoDn
  have cg := fun W hr => specBegin_nice S g n ns F T W hr hl hS
  have kc := fun o => specLayoutOk_any S g n F T _ (hrow.alloc o)
  rw [hl] at kc
  obtain ⟨V, eV⟩ : ∃ V, w.alloc (.cells #[.int .i64 S, .slice (some ⟨g, 0, none⟩) n n] 31) = V := ⟨_, rfl⟩
  have sV : V.heap.size = w.heap.size + 1 := by rw [← eV]; simp
  have bV : Below w.heap.size w V := by rw [← eV]; exact (by repeat (first | exact Below.refl _ _ | assumption | refine below_alloc ?_ _ | refine Below.setCell ?_ (by first | omega | (simp; done) | (simp; omega)) _ | refine Below.alloc ?_ (by first | omega | (simp; done) | (simp; omega)) _ | refine Below.drew ?_))
  have bL : Blk V w.heap.size 31 2 (fun i => if i = 0 then .int .i64 S else .slice (some ⟨g, 0, none⟩) n n) := by
    rw [← eV]
    exact Blk.new w #[.int .i64 S, .slice (some ⟨g, 0, none⟩) n n] 31 _ (fun i hi => by simp at hi; match i, hi with | 0, _ => rfl | 1, _ => rfl)
  have P0 : ∀ W, Below V.heap.size V W → W.cell? ⟨w.heap.size, 0, none⟩ = some (.int .i64 S) ∧ W.cell? ⟨w.heap.size, 1, none⟩ = some (.slice (some ⟨g, 0, none⟩) n n) := fun W hb => ⟨(bL.on hb).cell (i := 0) (by omega), (bL.on hb).cell (i := 1) (by omega)⟩
  have kc' := kc (.cells #[.int .i64 S, .slice (some ⟨g, 0, none⟩) n n] 31)
  rw [eV] at kc'
  have EV : Hid _ := eV
  clear eV bL kc
  go_enter Try.func28, Try.ntmps28
  go_wp2_with fail
  rw [EV.out]
  refine kc'.mono ?_
  clear kc'
  rintro e w1 ⟨rfl, B1⟩
  obtain ⟨y0, y1⟩ := P0 w1 B1
  go_wp2_with fail
  refine (cg _ (hrow.on (below_on bV B1))).mono ?_
  rintro e w2 ⟨a1, c1, a2, c2, rfl, L2, hb2⟩
  have zV : V.heap.size ≤ w2.heap.size := (below_on B1 hb2).size
  have b2 := Box3.lay w2 (.bool true) (.slice a1 ns c1) (.slice a2 n c2) 44
  have L2' : Lst (w2.alloc (.cells #[.bool true, .slice a1 ns c1, .slice a2 n c2] 44)) _ _ _ ns _ _ n _ := L2.on (by repeat (first | exact Below.refl _ _ | assumption | refine below_alloc ?_ _ | refine Below.setCell ?_ (by first | omega | (simp; done) | (simp; omega)) _ | refine Below.alloc ?_ (by first | omega | (simp; done) | (simp; omega)) _ | refine Below.drew ?_))
  have Bc : Below V.heap.size V (w2.alloc (.cells #[.bool true, .slice a1 ns c1, .slice a2 n c2] 44)) := below_alloc (below_on B1 hb2) _
  have I0 : RunI (w2.alloc (.cells #[.bool true, .slice a1 ns c1, .slice a2 n c2] 44)) V.heap.size w2.heap.size (.slice none 0 0) 0 ns n (runC S n F T P) (fun k => runX S n F T P (k + 1)) (fun k => runD S n F T P (k + 1)) := ⟨fun _ => .slice none 0 0, fun _ => .slice none 0 0, fun _ => w2.heap.size, World.ownsRow_nil _ _ _ _, zV, Nat.le_refl _, fun i hi => by omega⟩
  clear y0 y1 B1 hb2 L2 cg EV
  go_wp2
  go_loopw [6, 22] (fun q i wr => ∃ (k : Nat) (u1 u2 : Value) (lo hi top : Nat), k ≤ m ∧ i = .int .i64 k ∧ Box3 wr w2.heap.size 44 (.bool true) u1 u2 ∧ Lst wr lo hi u1 ns (runX S n F T P k) u2 n (runD S n F T P k) ∧ RunI wr V.heap.size top q k ns n (runC S n F T P) (fun k => runX S n F T P (k + 1)) (fun k => runD S n F T P (k + 1)) ∧ top ≤ wr.heap.size ∧ Below V.heap.size V wr) (fun _ i _ => m - (intOf i).toNat)
  case atStart => exact ⟨0, _, _, _, _, w2.heap.size, Nat.zero_le _, rfl, b2, L2', I0, by simp, Bc⟩
  case round =>
    clear b2 L2' I0 Bc
    obtain ⟨k, u1, u2, lo, hi', top, hk, rfl, hsb, LB, hI, htop, Bw⟩ := hrel
    by_cases hlt : k < m
    · rcases he0 with he0 | ⟨ge, me, fe, rfl, _, _, h2, h3, h4⟩
      · omega
      obtain ⟨c0, c1, c2⟩ := three (h3.on (below_on bV Bw)) h2 hlt h4
      have hst := run_ok (P := P) hl hS k
      obtain ⟨a1, d1, rfl, _⟩ := id LB.1
      obtain ⟨a2, d2, rfl, _⟩ := id LB.2
      obtain ⟨gs, rfl⟩ := LB.1.addr hp
      have eX : runX S n F T P (k + 1) = nxtX S n F T (runX S n F T P k) (runD S n F T P k) (P k 0) (P k 1) (P k 2) := rfl
      have eD : runD S n F T P (k + 1) = bhD S n (runD S n F T P k) (P k 0) (P k 1) (P k 2) := rfl
      have eC : runC S n F T P k = bhC S n F T (runX S n F T P k) (runD S n F T P k) (P k 0) (P k 1) (P k 2) := rfl
      obtain ⟨op, eop⟩ : ∃ op, P k 0 = op := ⟨_, rfl⟩
      obtain ⟨f, ef⟩ : ∃ f, P k 1 = f := ⟨_, rfl⟩
      obtain ⟨d, ed⟩ : ∃ d, P k 2 = d := ⟨_, rfl⟩
      rw [eop] at c0 eX eD eC
      rw [ef] at c1 eX eD eC
      rw [ed] at c2 eX eD eC
      have rU := (hrow.on (below_on bV Bw)).alloc (.cells #[.int .i64 op, .int .i64 f, .int .i64 d] 33)
      have LU := LB.on (below_alloc (Below.refl wr.heap.size wr) (.cells #[.int .i64 op, .int .i64 f, .int .i64 d] 33))
      obtain ⟨A1, A2, L, q1, q2, q3, q4⟩ := hI
      obtain ⟨s0, s1, s2⟩ := hsb.cells
      obtain ⟨y0, y1⟩ := P0 wr Bw
      have hsb' := Blk.lt hsb
      have zw : w.heap.size < wr.heap.size := by have := Bw.size; omega
      have hi1 : (k : Int) < (m : Int) := by omega
      have Q4 : Hid _ := q4
      clear eop ef ed h3 h4 q4
      cases hev' : evB S n op f d
      · obtain ⟨m1, m2, m3⟩ := nxt_none hst hev'
        have hbad : evOk S n F T op f d = false := by unfold evOk; rw [hl, hev']; rfl
        have kd := specDo_bad S op f d g n lo hi' F T _ true ns n _ _ _ rU (Lst.st LU) (.inr hbad)
        rw [m3] at eC
        have EC : Hid _ := eC
        have M1 : Hid _ := m1
        rw [m2] at eD
        rw [← eX] at M1
        have ED : Hid _ := eD
        clear hst m1 m2 m3 eC eX eD hbad
        go_wp2_with fail
        refine kd.mono ?_
        clear kd
        rintro e w3 ⟨_, rfl, ⟨e1, e2, e3, e4, rfl, _⟩, hb3⟩
        have zU : wr.heap.size + 1 ≤ w3.heap.size := by have := hb3.size; simpa using this
        have hbU : Below wr.heap.size wr w3 := below_on (below_alloc (Below.refl _ _) _) hb3
        have b3 := Box4.lay w3 1 false (.slice e1 0 e2) (.slice e3 0 e4)
        have hb3U : Below wr.heap.size wr (w3.alloc (.cells #[.int .i64 1, .bool false, .slice e1 0 e2, .slice e3 0 e4] 46)) := below_alloc hbU _
        have sb3 := hsb.on hb3U
        obtain ⟨s0', s1', s2'⟩ := sb3.cells
        have cp := l2copy_any true gs lo hi' ns d1 a2 n d2 (runX S n F T P k) (runD S n F T P k) _ hp (by omega) r3 (LB.on hb3U)
        clear rU LU s0 s1 s2 y0 y1 hbU hb3
        go_wp2_with fail
        refine cp.mono ?_
        clear cp
        rintro e w4 ⟨g', k1, a', k2, rfl, L4', hb4⟩
        have b4 := b3.on hb4
        have sb4' := sb3.on hb4
        obtain ⟨t0, t1, t2, t3⟩ := b4.cells
        have f1 := Blk.frozen b4 1
        have f2 := Blk.frozen b4 2
        have f3 := Blk.frozen b4 3
        obtain ⟨n1, n2⟩ := box4_state (ok' := true) (v1' := .slice (some ⟨g', 0, none⟩) ns k1) (v2' := .slice a' n k2) b4
        have hw4 := below_on hb3U hb4
        have z4 := hb4.size
        rw [World.size_alloc] at z4
        have hW4 := hw4.trans (n2.below (B := wr.heap.size) (by omega) hw4.size)
        have L4c : Lst w4 _ _ (.slice (some ⟨g', 0, none⟩) ns k1) ns (runX S n F T P (k + 1)) (.slice a' n k2) n (runD S n F T P (k + 1)) := ⟨L4'.1.congr (fun i hi j _ => by simp only [secs]; rw [M1.out i hi]), by rw [ED.out]; exact L4'.2⟩
        have N1 : Hid _ := n1
        have N2 : Hid _ := n2
        have HW : Hid _ := hW4
        clear n1 n2 hW4 L4' b3 sb3 hb3U s0' s1' s2' b4 hw4 LB
        go_upto_region 11 with fail
        obtain ⟨W4, e5⟩ : ∃ W4, ((w4.setCell ⟨w3.heap.size, 1, none⟩ (.bool true)).setCell ⟨w3.heap.size, 2, none⟩ (.slice (some ⟨g', 0, none⟩) ns k1)).setCell ⟨w3.heap.size, 3, none⟩ (.slice a' n k2) = W4 := ⟨_, rfl⟩
        have b4 : Box4 W4 w3.heap.size 1 true (.slice (some ⟨g', 0, none⟩) ns k1) (.slice a' n k2) := by rw [← e5]; exact N1.out
        have n2 : Turned w4 W4 (· = 46) w3.heap.size (w3.heap.size + 1) := by rw [← e5]; exact N2.out
        have hW4 : Below wr.heap.size wr W4 := by rw [← e5]; exact HW.out
        rw [e5]
        clear N1 N2 HW e5 t0 t1 t2 t3 f1 f2 f3
        have sb4 := sb4'.turned n2 (.inl (by decide))
        obtain ⟨lo4, el4⟩ : ∃ lo4, lo4 = (w3.alloc (.cells #[.int .i64 1, .bool false, .slice e1 0 e2, .slice e3 0 e4] 46)).heap.size := ⟨_, rfl⟩
        obtain ⟨hi4, eh4⟩ : ∃ hi4, hi4 = w4.heap.size := ⟨_, rfl⟩
        rw [← el4, ← eh4] at L4c
        rw [World.size_alloc] at el4
        have L4 : Lst W4 lo4 hi4 (.slice (some ⟨g', 0, none⟩) ns k1) ns (runX S n F T P (k + 1)) (.slice a' n k2) n (runD S n F T P (k + 1)) := ⟨L4c.1.turned n2 (.inl (by decide)), L4c.2.turned n2 (.inl (by decide))⟩
        have z4' := n2.size
        have q4 := Q4.out
        clear n2 L4c sb4' Q4
        obtain ⟨t0, t1, t2, t3⟩ := b4.cells
        obtain ⟨x0, x1, x2⟩ := sb4.cells
        have f0 := Blk.frozen sb4 0
        have f1 := Blk.frozen sb4 1
        have f2 := Blk.frozen sb4 2
        obtain ⟨n1, n2⟩ := box3_all (x' := .bool true) (y' := (.slice (some ⟨g', 0, none⟩) ns k1)) (z' := (.slice a' n k2)) sb4
        have N1 : Hid _ := n1
        have N2 : Hid _ := n2
        clear n1 n2
        go_upto_region 12 with fail
        obtain ⟨W5, e5⟩ : ∃ W5, ((W4.setCell ⟨w2.heap.size, 0, none⟩ (.bool true)).setCell ⟨w2.heap.size, 1, none⟩ (.slice (some ⟨g', 0, none⟩) ns k1)).setCell ⟨w2.heap.size, 2, none⟩ (.slice a' n k2) = W5 := ⟨_, rfl⟩
        have n1 : Box3 W5 w2.heap.size 44 (.bool true) (.slice (some ⟨g', 0, none⟩) ns k1) (.slice a' n k2) := by rw [← e5]; exact N1.out
        have n2 : Turned W4 W5 (· = 44) w2.heap.size (w2.heap.size + 1) := by rw [← e5]; exact N2.out
        rw [e5]
        clear N1 N2 e5 t0 t1 t2 t3 x0 x1 x2 f0 f1 f2
        have z5 : W4.heap.size ≤ W5.heap.size := n2.size
        have b5 := b4.turned n2 (by decide)
        obtain ⟨t0, t1, t2, t3⟩ := b5.cells
        have L5 : Lst W5 lo4 hi4 (.slice (some ⟨g', 0, none⟩) ns k1) ns (runX S n F T P (k + 1)) (.slice a' n k2) n (runD S n F T P (k + 1)) := ⟨L4.1.turned n2 (.inl (by decide)), L4.2.turned n2 (.inl (by decide))⟩
        have q5 : ∀ i, i < k → L i ≤ L (i + 1) ∧ SlF W5 93 5 (L i) (L (i + 1)) (A1 i) ns (secs (runX S n F T P (i + 1))) ∧ SlF W5 4 1 (L i) (L (i + 1)) (A2 i) n (bools (runD S n F T P (i + 1))) := fun i hi => ⟨(q4 i hi).1, ((q4 i hi).2.1.on hW4).turned n2 (.inl (by decide)), ((q4 i hi).2.2.on hW4).turned n2 (.inl (by decide))⟩
        have own5 := own_turned (own_on q1 hW4) n2 (by decide)
        have B5 : Below V.heap.size V W5 := (below_on Bw hW4).trans (n2.below (by omega) (below_on Bw hW4).size)
        have hnw := new_cells4 W5 (.int .i64 1) (.bool true) (.slice (some ⟨g', 0, none⟩) ns k1) (.slice a' n k2) 46
        have h1c : ∀ u ∈ [Value.int .i64 1, .bool true, (.slice (some ⟨g', 0, none⟩) ns k1), (.slice a' n k2)], u.oneCell' = true := fun u hu => by
          simp only [List.mem_cons, List.not_mem_nil, or_false] at hu
          rcases hu with rfl | rfl | rfl | rfl <;> rfl
        obtain ⟨UA, eU⟩ : ∃ UA, W5.alloc (.cells #[.int .i64 1, .bool true, (.slice (some ⟨g', 0, none⟩) ns k1), (.slice a' n k2)] 46) = UA := ⟨_, rfl⟩
        have hbU : Below W5.heap.size W5 UA := by rw [← eU]; exact (by repeat (first | exact Below.refl _ _ | assumption | refine below_alloc ?_ _ | refine Below.setCell ?_ (by first | omega | (simp; done) | (simp; omega)) _ | refine Below.alloc ?_ (by first | omega | (simp; done) | (simp; omega)) _ | refine Below.drew ?_))
        rw [eU] at hnw
        have EU : Hid _ := eU
        have ownU := own_on own5 hbU
        have LU := L5.on hbU
        have nU := n1.on hbU
        have BU := below_on B5 hbU
        have qU : ∀ i, i < k → L i ≤ L (i + 1) ∧ SlF UA 93 5 (L i) (L (i + 1)) (A1 i) ns (secs (runX S n F T P (i + 1))) ∧ SlF UA 4 1 (L i) (L (i + 1)) (A2 i) n (bools (runD S n F T P (i + 1))) := fun i hi => ⟨(q5 i hi).1, (q5 i hi).2.1.on hbU, (q5 i hi).2.2.on hbU⟩
        have QU : Hid _ := qU
        have zU := hbU.size
        clear q4 q5 qU eU L5 L4 n1 own5 b4 sb4 b5 hbU
        go_wp2_with (first
          | (at_builtin; rw [EU.out]; refine wpList_append_own _ rfl _ _ 59 rfl V.heap.size 46 i0 _ 4 64 Try.underlying59 hi hz0 hz1 hz2 rfl (by decide) _ _ _ rfl ownU ⟨W5.heap.size, 0, none⟩ 1 1 [.int .i64 1, .bool true, (.slice (some ⟨g', 0, none⟩) ns k1), (.slice a' n k2)] rfl rfl hnw h1c (by unfold maxLen; omega) (by omega) BU.size ?_; intro v' w6 hown' hgrow hnil; obtain ⟨g6, cap6, rfl⟩ := own_some hown' (by omega); have tg := own_grown ownU hgrow))
        have I6 := RunI.step (X := fun k => runX S n F T P (k + 1)) (D := fun k => runD S n F T P (k + 1)) ownU q2 q3 QU.out EC.out.symm LU (by omega) (by omega) hown' hgrow
        have B6 : Below V.heap.size V w6 := BU.trans (tg.below (Nat.le_refl _) BU.size)
        have z6 : hi4 ≤ w6.heap.size := by have h1 := tg.size; omega
        go_roundw
        case rel => exact ⟨k + 1, _, _, _, _, _, by omega, by go_num, nU.turned tg (.inl (by decide)), ⟨LU.1.turned tg (.inl (by decide)), LU.2.turned tg (.inl (by decide))⟩, I6, z6, B6⟩
        case measure => simp [intOf]; omega
      · have hok : evOk S n F T op f d = true := by unfold evOk; rw [hl, hev']; rfl
        have kd := specDo_ok S op f d g n lo hi' F T _ ns _ _ _ rU (Lst.st LU) hst hok
        have hC1 : ¬ bhC S n F T (runX S n F T P k) (runD S n F T P k) op f d = 1 := by unfold bhC; rw [hev']; exact effC_ne
        rw [← eC, ← eX, ← eD] at kd
        rw [← eC] at hC1
        obtain ⟨C, eC'⟩ : ∃ C, runC S n F T P k = C := ⟨_, rfl⟩
        rw [eC'] at kd hC1
        have EC : Hid _ := eC'
        clear hst eC eX eD hok eC'
        go_wp2_with fail
        refine kd.mono ?_
        clear kd
        rintro e w3 ⟨_, rfl, ⟨e1, e2, e3, e4, rfl, s3⟩, hb3⟩
        obtain ⟨_, _, ee, l1, l2⟩ := s3
        simp only [Value.agg.injEq, Array.mk.injEq, List.cons.injEq, and_true, true_and] at ee
        obtain ⟨rfl, rfl⟩ := ee
        have zU : wr.heap.size + 1 ≤ w3.heap.size := by have := hb3.size; simpa using this
        have hbU : Below wr.heap.size wr w3 := below_on (below_alloc (Below.refl _ _) _) hb3
        have b3 := Box4.lay w3 C true (.slice e1 ns e2) (.slice e3 n e4)
        obtain ⟨t0, t1, t2, t3⟩ := b3.cells
        clear rU LU s0 s1 s2 y0 y1 hb3 LB
        go_upto_region 11 with fail
        obtain ⟨W4, e5⟩ : ∃ W4, w3.alloc (.cells #[.int .i64 C, .bool true, .slice e1 ns e2, .slice e3 n e4] 46) = W4 := ⟨_, rfl⟩
        have h34 : Below w3.heap.size w3 W4 := by rw [← e5]; exact (by repeat (first | exact Below.refl _ _ | assumption | refine below_alloc ?_ _ | refine Below.setCell ?_ (by first | omega | (simp; done) | (simp; omega)) _ | refine Below.alloc ?_ (by first | omega | (simp; done) | (simp; omega)) _ | refine Below.drew ?_))
        have b4 : Box4 W4 w3.heap.size C true (.slice e1 ns e2) (.slice e3 n e4) := by rw [← e5]; exact b3
        rw [e5]
        clear e5 t0 t1 t2 t3 b3
        have hW4 := below_on hbU h34
        have sb4 := hsb.on hW4
        obtain ⟨lo4, el4⟩ : ∃ lo4, lo4 = (wr.alloc (.cells #[.int .i64 op, .int .i64 f, .int .i64 d] 33)).heap.size := ⟨_, rfl⟩
        obtain ⟨hi4, eh4⟩ : ∃ hi4, hi4 = w3.heap.size := ⟨_, rfl⟩
        rw [← el4, ← eh4] at l1 l2
        rw [World.size_alloc] at el4
        have L4 : Lst W4 lo4 hi4 (.slice e1 ns e2) ns (runX S n F T P (k + 1)) (.slice e3 n e4) n (runD S n F T P (k + 1)) := ⟨l1.on h34, l2.on h34⟩
        have z4' := h34.size
        have q4 := Q4.out
        clear h34 l1 l2 Q4
        obtain ⟨t0, t1, t2, t3⟩ := b4.cells
        obtain ⟨x0, x1, x2⟩ := sb4.cells
        have f0 := Blk.frozen sb4 0
        have f1 := Blk.frozen sb4 1
        have f2 := Blk.frozen sb4 2
        obtain ⟨n1, n2⟩ := box3_all (x' := .bool true) (y' := (.slice e1 ns e2)) (z' := (.slice e3 n e4)) sb4
        have N1 : Hid _ := n1
        have N2 : Hid _ := n2
        clear n1 n2
        go_upto_region 12 with fail
        obtain ⟨W5, e5⟩ : ∃ W5, ((W4.setCell ⟨w2.heap.size, 0, none⟩ (.bool true)).setCell ⟨w2.heap.size, 1, none⟩ (.slice e1 ns e2)).setCell ⟨w2.heap.size, 2, none⟩ (.slice e3 n e4) = W5 := ⟨_, rfl⟩
        have n1 : Box3 W5 w2.heap.size 44 (.bool true) (.slice e1 ns e2) (.slice e3 n e4) := by rw [← e5]; exact N1.out
        have n2 : Turned W4 W5 (· = 44) w2.heap.size (w2.heap.size + 1) := by rw [← e5]; exact N2.out
        rw [e5]
        clear N1 N2 e5 t0 t1 t2 t3 x0 x1 x2 f0 f1 f2
        have z5 : W4.heap.size ≤ W5.heap.size := n2.size
        have b5 := b4.turned n2 (by decide)
        obtain ⟨t0, t1, t2, t3⟩ := b5.cells
        have L5 : Lst W5 lo4 hi4 (.slice e1 ns e2) ns (runX S n F T P (k + 1)) (.slice e3 n e4) n (runD S n F T P (k + 1)) := ⟨L4.1.turned n2 (.inl (by decide)), L4.2.turned n2 (.inl (by decide))⟩
        have q5 : ∀ i, i < k → L i ≤ L (i + 1) ∧ SlF W5 93 5 (L i) (L (i + 1)) (A1 i) ns (secs (runX S n F T P (i + 1))) ∧ SlF W5 4 1 (L i) (L (i + 1)) (A2 i) n (bools (runD S n F T P (i + 1))) := fun i hi => ⟨(q4 i hi).1, ((q4 i hi).2.1.on hW4).turned n2 (.inl (by decide)), ((q4 i hi).2.2.on hW4).turned n2 (.inl (by decide))⟩
        have own5 := own_turned (own_on q1 hW4) n2 (by decide)
        have B5 : Below V.heap.size V W5 := (below_on Bw hW4).trans (n2.below (by omega) (below_on Bw hW4).size)
        have hnw := new_cells4 W5 (.int .i64 C) (.bool true) (.slice e1 ns e2) (.slice e3 n e4) 46
        have h1c : ∀ u ∈ [Value.int .i64 C, .bool true, (.slice e1 ns e2), (.slice e3 n e4)], u.oneCell' = true := fun u hu => by
          simp only [List.mem_cons, List.not_mem_nil, or_false] at hu
          rcases hu with rfl | rfl | rfl | rfl <;> rfl
        obtain ⟨UA, eU⟩ : ∃ UA, W5.alloc (.cells #[.int .i64 C, .bool true, (.slice e1 ns e2), (.slice e3 n e4)] 46) = UA := ⟨_, rfl⟩
        have hbU : Below W5.heap.size W5 UA := by rw [← eU]; exact (by repeat (first | exact Below.refl _ _ | assumption | refine below_alloc ?_ _ | refine Below.setCell ?_ (by first | omega | (simp; done) | (simp; omega)) _ | refine Below.alloc ?_ (by first | omega | (simp; done) | (simp; omega)) _ | refine Below.drew ?_))
        rw [eU] at hnw
        have EU : Hid _ := eU
        have ownU := own_on own5 hbU
        have LU := L5.on hbU
        have nU := n1.on hbU
        have BU := below_on B5 hbU
        have qU : ∀ i, i < k → L i ≤ L (i + 1) ∧ SlF UA 93 5 (L i) (L (i + 1)) (A1 i) ns (secs (runX S n F T P (i + 1))) ∧ SlF UA 4 1 (L i) (L (i + 1)) (A2 i) n (bools (runD S n F T P (i + 1))) := fun i hi => ⟨(q5 i hi).1, (q5 i hi).2.1.on hbU, (q5 i hi).2.2.on hbU⟩
        have QU : Hid _ := qU
        have zU := hbU.size
        clear q4 q5 qU eU L5 L4 n1 own5 b4 sb4 b5 hbU
        go_wp2_with (first
          | (at_builtin; rw [EU.out]; refine wpList_append_own _ rfl _ _ 59 rfl V.heap.size 46 i0 _ 4 64 Try.underlying59 hi hz0 hz1 hz2 rfl (by decide) _ _ _ rfl ownU ⟨W5.heap.size, 0, none⟩ 1 1 [.int .i64 C, .bool true, (.slice e1 ns e2), (.slice e3 n e4)] rfl rfl hnw h1c (by unfold maxLen; omega) (by omega) BU.size ?_; intro v' w6 hown' hgrow hnil; obtain ⟨g6, cap6, rfl⟩ := own_some hown' (by omega); have tg := own_grown ownU hgrow))
        have I6 := RunI.step (X := fun k => runX S n F T P (k + 1)) (D := fun k => runD S n F T P (k + 1)) ownU q2 q3 QU.out EC.out.symm LU (by omega) (by omega) hown' hgrow
        have B6 : Below V.heap.size V w6 := BU.trans (tg.below (Nat.le_refl _) BU.size)
        have z6 : hi4 ≤ w6.heap.size := by have h1 := tg.size; omega
        go_roundw
        case rel => exact ⟨k + 1, _, _, _, _, _, by omega, by go_num, nU.turned tg (.inl (by decide)), ⟨LU.1.turned tg (.inl (by decide)), LU.2.turned tg (.inl (by decide))⟩, I6, z6, B6⟩
        case measure => simp [intOf]; omega
    · have hkm : k = m := by omega
      subst hkm
      go_wp2
      go_ret
      exact ⟨_, rfl, (hI.dones htop).wide (by omega), below_on bV Bw⟩

end Go.Proofs.Ytlpopfhaephfaab
