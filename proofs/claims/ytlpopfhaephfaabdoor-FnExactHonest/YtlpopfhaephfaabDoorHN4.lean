import Derived.Test.YtlpopfhaephfaabDoorHN2
import Derived.Test.YtlpopfhaephfaabDoorHN3
namespace Go.Proofs.YtlpopfhaephfaabDoor
open Go.RowKit Go.Shelf
attribute [local go_sem] Oper.semAt_some

/-- no event lies -/
def honP (S : Int) (n ns : Nat) (F T : Nat → Int) (P : Nat → Nat → Int) (m : Nat) : Prop := ∀ k, k < m → lieE S n ns (trZ S n F T P (k + 1)) (P k 0) (P k 1) (P k 2) = none

theorem lieE_lt {S op f d : Int} {n ns : Nat} {Z : Nat → Int} {i : Nat} (h : lieE S n ns Z op f d = some i) : i < 4 := by
  unfold lieE at h
  split at h
  · cases h; omega
  · split at h
    · cases h; omega
    · split at h
      · cases h; omega
      · cases h

theorem lie_bad (S : Int) (g n m ce : Nat) (ae : Option Addr) (F T : Nat → Int) (a : Nat → Addr) (w : World) (hm : m ≤ 1048576) (hrow : Row w g 81 2 n (two F T)) (ha : Snt w a) (hb : ¬ (lokZ S n F T = 0 ∧ m ≤ 2000)) :
    Calls Tryd.prog 28 #[.agg #[.int .i64 S, .slice (some ⟨g, 0, none⟩) n n], .slice ae m ce] w fun e w' => e = .returned (errV a (some 0)) ∧ Below w.heap.size w w' := by
  have kc := fun W hr => runOk_any S g n m ce ae F T W hm hr
  have e0 : (lokZ S n F T == 0 && decide (m ≤ 2000)) = false := by
    cases h1 : (lokZ S n F T == 0)
    · rfl
    · simp only [beq_iff_eq] at h1
      simp only [Bool.true_and, decide_eq_false_iff_not]
      exact fun h => hb ⟨h1, h⟩
  rw [e0] at kc
  go_enter Tryd.func28, Tryd.ntmps28
  go_wp2_with fail
  refine (kc _ (((hrow.alloc _).alloc _).alloc _)).mono ?_
  rintro e w1 ⟨rfl, hb1⟩
  have B1 := below_on (show Below w.heap.size w _ from (by repeat (first | exact Below.refl _ _ | assumption | refine below_alloc ?_ _ | refine Below.setCell ?_ (by first | omega | (simp; done) | (simp; omega)) _ | refine Below.alloc ?_ (by first | omega | (simp; done) | (simp; omega)) _ | refine Below.drew ?_))) hb1
  have c0 := (ha.on B1).cell 0 (by omega)
  have bx : Blk w1 (w.heap.size + 1 + 1) 58 1 (fun _ => .nilIface) := by
    have := (Blk.new ((w.alloc (.cells #[.int .i64 S, .slice (some ⟨g, 0, none⟩) n n] 31)).alloc (.cells #[.slice ae m ce] 33)) #[.nilIface] 58 (fun _ => .nilIface) (fun i hi => by simp at hi; match i, hi with | 0, _ => rfl)).on hb1
    simp only [World.size_alloc] at this
    exact this
  have x0 := bx.cell (i := 0) (by omega)
  have f0 := bx.frozen 0
  have y0 := (blk_one bx (.iface 193 (.pointer (some (a 0))))).cell (i := 0) (by omega)
  go_wp2
  exact bodyPost_ret (v := .iface 193 (.pointer (some (a 0)))) (by simp only [results, Tryd.results28]; simp [go_sem, y0]) rfl ⟨rfl, B1.setCell (by first | omega | (simp; done) | (simp; omega)) _⟩

set_option maxRecDepth 100000 in
set_option maxHeartbeats 4000000 in
theorem lie_ok (g n le he m ns ce : Nat) (ae : Option Addr) (F T : Nat → Int) (P : Nat → Nat → Int) (a : Nat → Addr) (w : World) (hrow : Row w g 81 2 n (two F T)) (hev : SlF w 51 3 le he (.slice ae m ce) m (evs P)) (ha : Snt w a) (hl : lokZ (ns : Int) n F T = 0) (hm : m ≤ 2000) :
    Calls Tryd.prog 28 #[.agg #[.int .i64 (ns : Int), .slice (some ⟨g, 0, none⟩) n n], .slice ae m ce] w fun e w' => ∃ o, e = .returned (errV a o) ∧ (∀ i, o = some i → i < 4) ∧ (o = none ↔ honP (ns : Int) n ns F T P m) ∧ Below w.heap.size w w' := by
  obtain ⟨r1, r2, r3⟩ := lok_range hl
  have hp : 0 < ns := by omega
  have hm' : m ≤ 1048576 := by omega
  have kc := fun W hr => runOk_any (ns : Int) g n m ce ae F T W hm' hr
  have e0 : (lokZ (ns : Int) n F T == 0 && decide (m ≤ 2000)) = true := by simp [hl, hm]
  rw [e0] at kc
  clear e0
  obtain ⟨V, eV⟩ : ∃ V, ((w.alloc (.cells #[.int .i64 (ns : Int), .slice (some ⟨g, 0, none⟩) n n] 31)).alloc (.cells #[.slice ae m ce] 33)).alloc (.cells #[.nilIface] 58) = V := ⟨_, rfl⟩
  have sV : V.heap.size = w.heap.size + 1 + 1 + 1 := by rw [← eV]; simp
  have bV : Below w.heap.size w V := by rw [← eV]; exact (by repeat (first | exact Below.refl _ _ | assumption | refine below_alloc ?_ _ | refine Below.setCell ?_ (by first | omega | (simp; done) | (simp; omega)) _ | refine Below.alloc ?_ (by first | omega | (simp; done) | (simp; omega)) _ | refine Below.drew ?_))
  have bL : Blk V w.heap.size 31 2 (fun i => if i = 0 then .int .i64 (ns : Int) else .slice (some ⟨g, 0, none⟩) n n) := by
    rw [← eV]
    exact ((Blk.new w #[.int .i64 (ns : Int), .slice (some ⟨g, 0, none⟩) n n] 31 _ (fun i hi => by simp at hi; match i, hi with | 0, _ => rfl | 1, _ => rfl)).alloc _).alloc _
  have bE : Blk V (w.heap.size + 1) 33 1 (fun _ => .slice ae m ce) := by
    rw [← eV]
    have := (Blk.new (w.alloc (.cells #[.int .i64 (ns : Int), .slice (some ⟨g, 0, none⟩) n n] 31)) #[.slice ae m ce] 33 (fun _ => .slice ae m ce) (fun i hi => by simp at hi; match i, hi with | 0, _ => rfl)).alloc (.cells #[.nilIface] 58)
    simp only [World.size_alloc] at this
    exact this
  have bR : Blk V (w.heap.size + 1 + 1) 58 1 (fun _ => .nilIface) := by
    rw [← eV]
    have := Blk.new ((w.alloc (.cells #[.int .i64 (ns : Int), .slice (some ⟨g, 0, none⟩) n n] 31)).alloc (.cells #[.slice ae m ce] 33)) #[.nilIface] 58 (fun _ => .nilIface) (fun i hi => by simp at hi; match i, hi with | 0, _ => rfl)
    simp only [World.size_alloc] at this
    exact this
  have P0 : ∀ W, Below V.heap.size V W → W.cell? ⟨w.heap.size, 0, none⟩ = some (.int .i64 (ns : Int)) ∧ W.cell? ⟨w.heap.size, 1, none⟩ = some (.slice (some ⟨g, 0, none⟩) n n) ∧ W.cell? ⟨w.heap.size + 1, 0, none⟩ = some (.slice ae m ce) := fun W hb => ⟨(bL.on hb).cell (i := 0) (by omega), (bL.on hb).cell (i := 1) (by omega), (bE.on hb).cell (i := 0) (by omega)⟩
  have EV : Hid _ := eV
  clear eV bL bE
  refine (callsIn_wide (n := 3)).1 ?_
  refine callsIn_of_wp_marks Tryd.func28 rfl trivial ?_ rfl
  simp only [Tryd.ntmps28, List.size_toArray, List.length_cons, List.length_nil, Nat.reduceAdd, Nat.reduceSub, Array.replicate_succ, Array.replicate_zero, List.push_toArray, List.append_toArray, List.nil_append, List.cons_append]
  gi_wp2_with fail
  rw [EV.out]
  refine ⟨trivial, (callsIn_wide.2 (kc _ (hrow.on bV))).mono ?_⟩
  clear kc
  rintro e w1 ⟨rfl, B1⟩
  obtain ⟨y0, y1, y2⟩ := P0 w1 B1
  gi_wp2_with fail
  refine ⟨trivial, (callsIn_wide.2 (rows_any (ns : Int) g n m ce ae w1)).mono ?_⟩
  rintro e w3 ⟨rfl, hw3⟩
  have h13 : Below w1.heap.size w1 w3 := by rw [hw3]; exact (by repeat (first | exact Below.refl _ _ | assumption | refine below_alloc ?_ _ | refine Below.setCell ?_ (by first | omega | (simp; done) | (simp; omega)) _ | refine Below.alloc ?_ (by first | omega | (simp; done) | (simp; omega)) _ | refine Below.drew ?_))
  have z3 : w3.heap.size = w1.heap.size + 1 + 1 := by rw [hw3]; simp
  have BV3 := below_on B1 h13
  have B3 := below_on bV BV3
  have eL : Blk w3 w1.heap.size 31 2 (fun i => if i = 0 then .int .i64 (ns : Int) else .slice (some ⟨g, 0, none⟩) n n) := by
    rw [hw3]
    exact (Blk.new w1 #[.int .i64 (ns : Int), .slice (some ⟨g, 0, none⟩) n n] 31 _ (fun i hi => by simp at hi; match i, hi with | 0, _ => rfl | 1, _ => rfl)).alloc _
  have eE : Blk w3 (w1.heap.size + 1) 33 1 (fun _ => .slice ae m ce) := by
    rw [hw3]
    have := Blk.new (w1.alloc (.cells #[.int .i64 (ns : Int), .slice (some ⟨g, 0, none⟩) n n] 31)) #[.slice ae m ce] 33 (fun _ => .slice ae m ce) (fun i hi => by simp at hi; match i, hi with | 0, _ => rfl)
    rw [World.size_alloc] at this
    exact this
  have EN : EnvT w3 w1.heap.size (w1.heap.size + 1) (ns : Int) g n le he m ae ce F T P := ⟨eL, eE, hrow.on B3, hev.on B3⟩
  have zV3 : V.heap.size ≤ w3.heap.size := BV3.size
  have hmx : Tryd.prog.follows .mixedOrders = true := by kernel_rfl
  clear hw3 eL eE h13 B1 EV z3 y0 y1 y2
  gi_wp2_with fail
  refine range_rowsX (gf := 62) (lb := #[.pointer (some ⟨w1.heap.size, 0, none⟩), .pointer (some ⟨w1.heap.size + 1, 0, none⟩)]) rfl (enters_of Tryd.func62 (by kernel_rfl) rfl) (rows1_inX _ w1.heap.size (w1.heap.size + 1) g n le he m ce ns ae F T P w3 hl hm EN) (fun _ _ => rfl)
    (fun rb k W l o o' h h1 h2 => Blk.of_block h (World.putObj_heap_other (fun e1 => by subst e1; obtain ⟨o2, h3, h4⟩ := blk_cells h; rw [h1] at h3; cases h3; rw [h2] at h4; cases h4)))
    KpT.trans KpT.putObj
    (fun k W => honP (ns : Int) n ns F T P k ∧ Below V.heap.size V W) ?own
    (fun W => ∃ i, i < 4 ∧ ¬ honP (ns : Int) n ns F T P m ∧ W.cell? ⟨w.heap.size + 1 + 1, 0, none⟩ = some (errV a (some i)) ∧ Below w.heap.size w W) ?ownx
    ⟨fun k hk => by omega, BV3⟩
    (fun k => { tmps := #[.agg #[.int .i64 (ns : Int), .slice (some ⟨g, 0, none⟩) n n], .slice ae m ce, .pointer (some ⟨w.heap.size, 0, none⟩), .pointer (some ⟨w.heap.size + 1, 0, none⟩), .pointer (some ⟨w.heap.size + 1 + 1, 0, none⟩), .int .i64 (k : Int), .slice (some ⟨w3.heap.size + 1 + 1, 0, none⟩) ns ns, undef, .agg #[.int .i64 (ns : Int), .slice (some ⟨g, 0, none⟩) n n], .slice ae m ce, .bool true, .bool false, undef, .agg #[.int .i64 (ns : Int), .slice (some ⟨g, 0, none⟩) n n], .slice ae m ce, .func (.func 62) #[] #[.pointer (some ⟨w1.heap.size, 0, none⟩), .pointer (some ⟨w1.heap.size + 1, 0, none⟩)], .int .i64 (k : Int), .slice (some ⟨w3.heap.size + 1 + 1, 0, none⟩) ns ns, undef, undef, undef, undef, undef, undef, undef, undef, undef, undef], defers := [] }) ?assign ?body ?done ?stop
  case own =>
    rintro k A B row ⟨h1, hB⟩ hg hr
    refine ⟨h1, hB.grown hg hB.size (fun r e => ?_)⟩
    rcases hr r e with h | ⟨h, _⟩ <;> omega
  case ownx =>
    rintro A B row ⟨i, h1, h2, h3, hB⟩ hg hr
    exact ⟨i, h1, h2, cell_kept h3 hg (fun r e => (hr r e).2), hB.grown hg hB.size (fun r e => by have := (hr r e).1; omega)⟩
  case assign =>
    intro l k W K hK
    gi_wp2
    exact hK
  case body =>
    rintro l k W hk ⟨hh, hB⟩ hrw
    have hi1 : (k : Int) < (m : Int) := by omega
    have Bw := below_on bV hB
    obtain ⟨y0, y1, y2⟩ := P0 W hB
    obtain ⟨ae', ce', ee, he0⟩ := id (hev.on Bw)
    simp only [Value.slice.injEq] at ee
    obtain ⟨rfl, _, rfl⟩ := ee
    rcases he0 with he0 | ⟨ge, me, fe, rfl, _, _, h2, h3, h4⟩
    · omega
    obtain ⟨c0, c1, c2⟩ := trio h3 h2 hk h4
    have kl := lieAt_any (ns : Int) (P k 0) (P k 1) (P k 2) g n ns (w3.heap.size + 1 + 1) (trZ (ns : Int) n F T P (k + 1)) a W.drew r3 hp (by omega) rfl hrw ((ha.on Bw).on (Below.refl W.heap.size W).drew)
    have hst : honP (ns : Int) n ns F T P k → lieE (ns : Int) n ns (trZ (ns : Int) n F T P (k + 1)) (P k 0) (P k 1) (P k 2) = none → honP (ns : Int) n ns F T P (k + 1) := fun h h' j hj => by
      rcases (show j < k ∨ j = k by omega) with h9 | h9
      · exact h j h9
      · subst h9; exact h'
    have hno : ∀ i, lieE (ns : Int) n ns (trZ (ns : Int) n F T P (k + 1)) (P k 0) (P k 1) (P k 2) = some i → ¬ honP (ns : Int) n ns F T P m := fun i h h' => by rw [h' k hk] at h; cases h
    have hlt4 : ∀ i, lieE (ns : Int) n ns (trZ (ns : Int) n F T P (k + 1)) (P k 0) (P k 1) (P k 2) = some i → i < 4 := fun i h => lieE_lt h
    obtain ⟨op, eop⟩ : ∃ op, P k 0 = op := ⟨_, rfl⟩
    obtain ⟨f, ef⟩ : ∃ f, P k 1 = f := ⟨_, rfl⟩
    obtain ⟨d, ed⟩ : ∃ d, P k 2 = d := ⟨_, rfl⟩
    rw [eop] at c0 kl hst hno hlt4
    rw [ef] at c1 kl hst hno hlt4
    rw [ed] at c2 kl hst hno hlt4
    obtain ⟨o, eo⟩ : ∃ o, lieE (ns : Int) n ns (trZ (ns : Int) n F T P (k + 1)) op f d = o := ⟨_, rfl⟩
    rw [eo] at kl hst hno hlt4
    have kl' := (callsIn_wide (n := 0)).2 kl
    have HST : Hid _ := hst
    have HNO : Hid _ := hno
    have HLT : Hid _ := hlt4
    have zr : w3.heap.size + 1 + 1 < W.heap.size := Blk.lt hrw
    have lgE := h3.lt
    clear kl eop ef ed eo hst hno hlt4 h3 h4
    gi_wp2_with fail
    cases o with
    | none =>
      have EN0 : errV a none = .nilIface := rfl
      rw [EN0] at kl'
      have HH : Hid _ := HST.out hh rfl
      clear HST HNO HLT
      gi_region_with_o (refine ⟨trivial, ?_⟩; gi_at_call 48; refine (CallsIn.inRound l kl').mono ?_; rintro e w5 ⟨rfl, hb5⟩)
      all_goals
        have h5 : Below W.heap.size W w5 := (Below.refl W.heap.size W).drew.trans hb5
        gi_wp2
        exact ⟨keeps_turned (Turned.of_below (E := fun _ => False) (lo := 0) (hi := 0) h5), KpT.of_turned (Turned.of_below (E := fun _ => False) (lo := 0) (hi := 0) h5) id id id id, Blk.on hrw h5, HH.out, below_on hB h5⟩
    | some i =>
      have EN0 : errV a (some i) = .iface 193 (.pointer (some (a i))) := rfl
      have h4 := HLT.out i rfl
      have hn4 := HNO.out i rfl
      rw [EN0] at kl'
      have HN4 : Hid _ := hn4
      clear HST HNO HLT hn4
      gi_region_with_o (refine ⟨trivial, ?_⟩; gi_at_call 48; refine (CallsIn.inRound l kl').mono ?_; rintro e w5 ⟨rfl, hb5⟩)
      all_goals
        have h5 : Below W.heap.size W w5 := (Below.refl W.heap.size W).drew.trans hb5
        have b5 := bR.on (below_on hB h5)
        have x5 := b5.cell (i := 0) (by omega)
        have u5 := b5.frozen 0
        gi_wp2
        exact ⟨(keeps_turned (Turned.of_below (E := fun _ => False) (lo := 0) (hi := 0) h5)).trans (KeepsOthers.setCell _ _ _), i, h4, HN4.out, (blk_one b5 _).cell (i := 0) (by omega), (below_on Bw h5).setCell (p := ⟨w.heap.size + 1 + 1, 0, none⟩) (show w.heap.size ≤ w.heap.size + 1 + 1 by omega) _⟩
  case done =>
    rintro W ⟨hh, hB⟩ hD
    have b5 := bR.on hB
    have x5 := b5.cell (i := 0) (by omega)
    have u5 := b5.frozen 0
    have hD' := (KeepsOthers.setCell W ⟨w.heap.size + 1 + 1, 0, none⟩ .nilIface).same _ _ hD rfl
    have c6 := cell_kept ((blk_one b5 .nilIface).cell (i := 0) (by omega)) (grownBy_putObj' (W.setCell ⟨w.heap.size + 1 + 1, 0, none⟩ .nilIface) w3.heap.size (.deferred none)) (fun r e => by cases e; exact ⟨_, hD', rfl⟩)
    have B6 : Below w.heap.size w (W.setCell ⟨w.heap.size + 1 + 1, 0, none⟩ .nilIface) := (below_on bV hB).setCell (p := ⟨w.heap.size + 1 + 1, 0, none⟩) (show w.heap.size ≤ w.heap.size + 1 + 1 by omega) _
    have B7 := B6.grown (grownBy_putObj' (W.setCell ⟨w.heap.size + 1 + 1, 0, none⟩ .nilIface) w3.heap.size (.deferred none)) B6.size (fun r e => by cases e; omega)
    gi_wp2
    refine ⟨by simp, .inl ⟨_, _, rfl, run_takeDeferred hD', ?_⟩⟩
    refine ⟨.nilIface, ?_, none, rfl, fun i h => (by cases h), ⟨fun _ => hh, fun _ => rfl⟩, B7⟩
    simp only [results, Tryd.results28]
    simp [go_sem, c6]
  case stop =>
    rintro W ⟨i, h1, h2, h3, hB⟩ hD
    have c6 := cell_kept h3 (grownBy_putObj' W w3.heap.size (.deferred none)) (fun r e => by cases e; exact ⟨_, hD, rfl⟩)
    have B7 := hB.grown (grownBy_putObj' W w3.heap.size (.deferred none)) hB.size (fun r e => by cases e; omega)
    gi_wp2
    refine ⟨by simp, .inl ⟨_, _, rfl, run_takeDeferred hD, ?_⟩⟩
    refine ⟨errV a (some i), ?_, some i, rfl, fun j h => (by cases h; exact h1), ⟨fun h => (by cases h), fun h => absurd h h2⟩, B7⟩
    simp only [results, Tryd.results28]
    simp [go_sem, c6]

end Go.Proofs.YtlpopfhaephfaabDoor
