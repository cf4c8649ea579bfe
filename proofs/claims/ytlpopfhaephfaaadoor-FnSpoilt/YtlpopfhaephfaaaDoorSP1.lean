import Derived.Test.YtlpopfhaephfaaaDoorSP0
import Derived.Test.YtlpopfhaephfaaaDoorRC
import Derived.Deep.RegionWith
import Derived.Deep.Cut
import Derived.OwnWalk
namespace Go.Proofs.YtlpopfhaephfaaaDoor
open Go.RowKit

theorem CRow.put0 {w : World} {g n k b : Nat} {F T : Nat → Int} (h : CRow w g n F T) (hk : k < n) (hb : gA g = some ⟨b, 0, none⟩) (z : Int) : CRow (w.setCell ⟨b, k * 2, none⟩ (.int .i64 z)) g n (fun i => if i = k then z else F i) T := by
  rcases h with h | ⟨b', m, f, e, h2, h3, h4⟩
  · omega
  · rw [hb] at e
    cases e
    refine .inr ⟨b, m, _, hb, h2, h3.set (k * 2) _, fun i hi j hj => ?_⟩
    have e4 := h4 i hi j hj
    by_cases hik : i = k
    · subst hik
      match j, hj with
      | 0, _ => simp [two]
      | 1, _ =>
        show (if i * 2 + 1 = i * 2 then _ else f (i * 2 + 1)) = _
        rw [if_neg (by omega), e4]
        rfl
    · show (if i * 2 + j = k * 2 then _ else f (i * 2 + j)) = _
      rw [if_neg (by omega), e4]
      simp [two, hik]
theorem CRow.put1 {w : World} {g n k b : Nat} {F T : Nat → Int} (h : CRow w g n F T) (hk : k < n) (hb : gA g = some ⟨b, 0, none⟩) (z : Int) : CRow (w.setCell ⟨b, k * 2 + 1, none⟩ (.int .i64 z)) g n F (fun i => if i = k then z else T i) := by
  rcases h with h | ⟨b', m, f, e, h2, h3, h4⟩
  · omega
  · rw [hb] at e
    cases e
    refine .inr ⟨b, m, _, hb, h2, h3.set (k * 2 + 1) _, fun i hi j hj => ?_⟩
    have e4 := h4 i hi j hj
    by_cases hik : i = k
    · subst hik
      match j, hj with
      | 0, _ =>
        show (if i * 2 + 0 = i * 2 + 1 then _ else f (i * 2 + 0)) = _
        rw [if_neg (by omega), e4]
        rfl
      | 1, _ => simp [two]
    · show (if i * 2 + j = k * 2 + 1 then _ else f (i * 2 + j)) = _
      rw [if_neg (by omega), e4]
      simp [two, hik]

def isSp (e : Nat) : Prop := e = 61 ∨ e = 74
theorem CRow.blk {w : World} {g n k b : Nat} {F T : Nat → Int} (h : CRow w g n F T) (hk : k < n) (hb : gA g = some ⟨b, 0, none⟩) : ∃ mm f, Blk w b 74 mm f := by
  rcases h with h | ⟨b', m, f, e, h2, h3, h4⟩
  · omega
  · rw [hb] at e
    cases e
    exact ⟨m, f, h3⟩

/-- what stands inside spoil: the cursor, the layout's block, the result's block -/
structure SpI (w W : World) (B p m cap : Nat) (ao : Option Addr) (C : Nat → Int) (c : Cu) (q0 q1 : Nat) (S : Int) (u : Value) : Prop where
  cur : Cur W B p ao m cap C c
  lay : Box2 W q0 25 (.int .i64 S) u
  res : Box2 W q1 25 (.int .i64 0) (.slice none 0 0)
  bel : Below p w W
  pq : p < q0 ∧ q0 < q1
  tur : Turned w W isSp p w.heap.size
  pw : p < w.heap.size ∧ w.heap.size ≤ q0

section
variable {w W W' : World} {B p m cap : Nat} {ao : Option Addr} {C : Nat → Int} {c c' : Cu} {q0 q1 : Nat} {S : Int} {u : Value}
theorem SpI.on (h : SpI w W B p m cap ao C c q0 q1 S u) (hb : Below W.heap.size W W') : SpI w W' B p m cap ao C c q0 q1 S u :=
  ⟨h.cur.on hb, h.lay.on hb, h.res.on hb, h.bel.trans (hb.mono (Nat.le_of_lt h.cur.lt)), h.pq, h.tur.trans (Turned.of_below hb), h.pw⟩
theorem SpI.pick (h : SpI w W B p m cap ao C c q0 q1 S u) (hc : Cur W' B p ao m cap C c') (ht : Turned W W' (· = 61) p (p + 1)) : SpI w W' B p m cap ao C c' q0 q1 S u :=
  ⟨hc, h.lay.turned ht (.inl (by decide)), h.res.turned ht (.inl (by decide)), h.bel.trans (ht.below (Nat.le_refl _) (Nat.le_of_lt h.cur.lt)), h.pq, h.tur.trans (ht.mono (fun _ he => .inl he) (Nat.le_refl _) h.pw.1), h.pw⟩
theorem SpI.set0 (h : SpI w W B p m cap ao C c q0 q1 S u) (S' : Int) : SpI w (W.setCell ⟨q0, 0, none⟩ (.int .i64 S')) B p m cap ao C c q0 q1 S' u :=
  ⟨h.cur.set_other h.pq.1 _, (Blk.set h.lay 0 _).congr (fun i hi => by match i, hi with | 0, _ => rfl | 1, _ => rfl), h.res.set_other (show q0 ≠ q1 from Nat.ne_of_lt h.pq.2) _, h.bel.setCell (Nat.le_of_lt h.pq.1) _, h.pq, h.tur.more ((Below.refl _ _).setCell h.pw.2 _), h.pw⟩
theorem SpI.set1 (h : SpI w W B p m cap ao C c q0 q1 S u) (u' : Value) : SpI w (W.setCell ⟨q0, 1, none⟩ u') B p m cap ao C c q0 q1 S u' :=
  ⟨h.cur.set_other h.pq.1 _, h.lay.set1 _, h.res.set_other (show q0 ≠ q1 from Nat.ne_of_lt h.pq.2) _, h.bel.setCell (Nat.le_of_lt h.pq.1) _, h.pq, h.tur.more ((Below.refl _ _).setCell h.pw.2 _), h.pw⟩
theorem SpI.put (h : SpI w W B p m cap ao C c q0 q1 S u) {b g n k : Nat} {F T : Nat → Int} (hr : CRow W g n F T) (hk : k < n) (hg : gA g = some ⟨b, 0, none⟩) (hb : p < b) (h0 : b ≠ q0) (h1 : b ≠ q1) (i : Nat) (v : Value) : SpI w (W.setCell ⟨b, i, none⟩ v) B p m cap ao C c q0 q1 S u := by
  refine ⟨h.cur.set_other hb _, h.lay.set_other h0 _, h.res.set_other h1 _, h.bel.setCell (Nat.le_of_lt hb) _, h.pq, ?_, h.pw⟩
  obtain ⟨mm, f, hB⟩ := hr.blk hk hg
  by_cases hlt : b < w.heap.size
  · exact h.tur.trans (Turned.set hB (.inr rfl) (Nat.le_of_lt hb) hlt v)
  · exact h.tur.more ((Below.refl _ _).setCell (by show w.heap.size ≤ b; omega) _)
end

/-- spoil's answer -/
def SpP (w w' : World) (B p m cap : Nat) (ao : Option Addr) (C : Nat → Int) (c : Cu) (lo : Nat) (e : Ending) : Prop :=
  ∃ (S' : Int) (g' n' : Nat) (F' T' : Nat → Int) (c' : Cu), e = .returned (.agg #[.int .i64 S', .slice (gA g') n' (gC g')]) ∧ (-1000 ≤ S' ∧ S' ≤ 1000 ∧ n' ≤ 121) ∧ CRow w' g' n' F' T' ∧ (∀ ad, gA g' = some ad → lo ≤ ad.block) ∧ Cur w' B p ao m cap C c' ∧ c'.pos ≤ c.pos + 4 ∧ Turned w w' isSp p w.heap.size

theorem sp_end {w W : World} {B p m cap : Nat} {ao : Option Addr} {C : Nat → Int} {c c' : Cu} {q0 q1 lo : Nat} {S : Int} {g n : Nat} {F T : Nat → Int} (h : SpI w W B p m cap ao C c' q0 q1 S (.slice (gA g) n (gC g))) (hr : CRow W g n F T) (hS : -1000 ≤ S ∧ S ≤ 1000 ∧ n ≤ 121) (hlo : ∀ ad, gA g = some ad → lo ≤ ad.block) (hc : c'.pos ≤ c.pos + 4) :
    SpP w ((W.setCell ⟨q1, 0, none⟩ (.int .i64 S)).setCell ⟨q1, 1, none⟩ (.slice (gA g) n (gC g))) B p m cap ao C c lo (.returned (.agg #[.int .i64 S, .slice (gA g) n (gC g)])) := by
  have hp : p < q1 := Nat.lt_trans h.pq.1 h.pq.2
  refine ⟨S, g, n, F, T, c', rfl, hS, hr.turned (Turned.of_set2 h.res _ _) (by decide), hlo, (h.cur.set_other (a := ⟨q1, 0, none⟩) hp _).set_other (a := ⟨q1, 1, none⟩) hp _, hc, ?_⟩
  have hq : w.heap.size ≤ q1 := Nat.le_trans h.pw.2 (Nat.le_of_lt h.pq.2)
  exact h.tur.more (((Below.refl _ _).setCell (show w.heap.size ≤ q1 from hq) _).setCell (show w.heap.size ≤ q1 from hq) _)

set_option maxRecDepth 100000 in
set_option maxHeartbeats 8000000 in
theorem spoil_any (B p m cap lo : Nat) (ao : Option Addr) (C : Nat → Int) (c : Cu) (S : Int) (g n : Nat) (F T : Nat → Int) (w : World) (h : Cur w B p ao m cap C c) (hq : c.pos < 1000) (hS : -1000 ≤ S ∧ S ≤ 1000 ∧ n ≤ 121) (hrow : CRow w g n F T) (hlo : ∀ ad, gA g = some ad → lo ≤ ad.block) (hpl : p < lo) (hlw : lo ≤ w.heap.size) :
    Calls Tryd.prog 39 #[.pointer (some ⟨p, 0, none⟩), .agg #[.int .i64 S, .slice (gA g) n (gC g)]] w fun e w' => SpP w w' B p m cap ao C c lo e := by
  have hpw := h.lt
  obtain ⟨i0, hi, hz0, hz1, hz2⟩ := info_parts Tryd.infoCn
  obtain ⟨W0, eW0⟩ : ∃ W, (w.alloc (.cells #[.int .i64 S, .slice (gA g) n (gC g)] 25)).alloc (.cells #[.int .i64 0, .slice none 0 0] 25) = W := ⟨_, rfl⟩
  have b0 : Below w.heap.size w W0 := by rw [← eW0]; exact (by repeat (first | exact Below.refl _ _ | assumption | refine below_alloc ?_ _ | refine Below.setCell ?_ (by first | omega | (simp; done) | (simp; omega)) _ | refine Below.alloc ?_ (by first | omega | (simp; done) | (simp; omega)) _ | refine Below.drew ?_))
  have I0 : SpI w W0 B p m cap ao C c w.heap.size (w.heap.size + 1) S (.slice (gA g) n (gC g)) := by
    refine ⟨h.on b0, ?_, ?_, b0.mono (Nat.le_of_lt hpw), ⟨hpw, by omega⟩, Turned.of_below b0, ⟨hpw, Nat.le_refl _⟩⟩
    · rw [← eW0]; exact (Box2.lay w _ _ _).alloc _
    · rw [← eW0]
      have := Box2.lay (w.alloc (.cells #[.int .i64 S, .slice (gA g) n (gC g)] 25)) (.int .i64 0) (.slice none 0 0) 25
      rwa [World.size_alloc] at this
  have row := hrow.on b0
  obtain ⟨q0, eq0⟩ : ∃ q, w.heap.size = q := ⟨_, rfl⟩
  obtain ⟨q1, eq1⟩ : ∃ q, q0 + 1 = q := ⟨_, rfl⟩
  rw [eq0, eq1] at I0
  have hgq : ∀ ad, gA g = some ad → n = 0 ∨ (p < ad.block ∧ ad.block ≠ q0 ∧ ad.block ≠ q1) := fun ad had => by
    rcases hrow with h0 | ⟨b, mm, f, e, _, h3, _⟩
    · exact .inl h0
    · rw [had] at e
      cases e
      have h1 := h3.lt
      have h2 := hlo _ had
      right
      show p < b ∧ b ≠ q0 ∧ b ≠ q1
      have : lo ≤ b := h2
      omega
  have EW0 : Hid _ := eW0
  have EQ0 : Hid _ := eq0
  have EQ1 : Hid _ := eq1
  have HGQ : Hid _ := hgq
  have HLO : Hid (∀ ad, gA g = some ad → lo ≤ ad.block) := hlo
  have p5 := pk_pos C m c 5
  have r5 := pk_range C m c 5
  have r5' := r5.2 (by omega)
  have k5 := pick_any B p m cap ao C c 5 W0 I0.cur (by omega) (by omega)
  have LW : Hid (lo ≤ q0 ∧ p < lo) := ⟨by omega, hpl⟩
  clear eW0 eq0 eq1 hgq hlo hrow b0 h hlw hpl
  go_enter Tryd.func39, Tryd.ntmps39
  go_upto_region 1 with fail
  rw [EW0.out, EQ0.out, EQ1.out]
  go_wp2_with fail
  refine k5.mono ?_
  rintro _ w1 ⟨rfl, c1', t1⟩
  have I1 := I0.pick c1' t1
  have row1 := row.turned t1 (by decide)
  obtain ⟨v0, ev0⟩ : ∃ v, pkV C m c 5 = v := ⟨_, rfl⟩
  obtain ⟨c1, ec1⟩ : ∃ x, pkC C m c 5 = x := ⟨_, rfl⟩
  rw [ev0] at r5 r5' ⊢
  rw [ec1] at I1 p5
  obtain ⟨r5, _⟩ := r5
  clear I0 row t1 c1' ev0 ec1 k5 EW0 EQ0 EQ1
  by_cases h0 : v0 = 0
  · subst h0
    have I2 := I1.on (show Below w1.heap.size w1 (w1.alloc (.cells #[.int .i64 0, .int .i64 (-1), .int .i64 60, .int .i64 61] 3)) from (by repeat (first | exact Below.refl _ _ | assumption | refine below_alloc ?_ _ | refine Below.setCell ?_ (by first | omega | (simp; done) | (simp; omega)) _ | refine Below.alloc ?_ (by first | omega | (simp; done) | (simp; omega)) _ | refine Below.drew ?_)))
    have row2 := row1.alloc (.cells #[.int .i64 0, .int .i64 (-1), .int .i64 60, .int .i64 61] 3)
    have p4 := pk_pos C m c1 4
    have r4 := pk_range C m c1 4
    have r4' := r4.2 (by omega)
    have k4 := pick_any B p m cap ao C c1 4 _ I2.cur (by omega) (by omega)
    have blk : Blk (w1.alloc (.cells #[.int .i64 0, .int .i64 (-1), .int .i64 60, .int .i64 61] 3)) w1.heap.size 3 4 (fun i => #[Value.int .i64 0, .int .i64 (-1), .int .i64 60, .int .i64 61][i]!) := Blk.new w1 #[.int .i64 0, .int .i64 (-1), .int .i64 60, .int .i64 61] _ _ (fun i hi => by simp at hi; match i, hi with | 0, _ => rfl | 1, _ => rfl | 2, _ => rfl | 3, _ => rfl)
    go_wp2_with fail
    refine k4.mono ?_
    rintro _ w2 ⟨rfl, c2', t2⟩
    have I3 := I2.pick c2' t2
    have row3 := row2.turned t2 (by decide)
    have blk3 := blk.turned t2 (.inl (by decide))
    obtain ⟨v1, ev1⟩ : ∃ v, pkV C m c1 4 = v := ⟨_, rfl⟩
    obtain ⟨c2, ec2⟩ : ∃ x, pkC C m c1 4 = x := ⟨_, rfl⟩
    rw [ev1] at r4 r4' ⊢
    rw [ec2] at I3 p4
    obtain ⟨r4, _⟩ := r4
    obtain ⟨qb, eqb⟩ : ∃ q, w1.heap.size = q := ⟨_, rfl⟩
    rw [eqb] at blk3 ⊢
    clear I1 I2 row1 row2 k4 blk c2' t2 ev1 ec2 eqb
    have x0 : w2.cell? ⟨qb, 0, none⟩ = some (.int .i64 0) := blk3.cell (by omega)
    have x1 : w2.cell? ⟨qb, 1, none⟩ = some (.int .i64 (-1)) := blk3.cell (by omega)
    have x2 : w2.cell? ⟨qb, 2, none⟩ = some (.int .i64 60) := blk3.cell (by omega)
    have x3 : w2.cell? ⟨qb, 3, none⟩ = some (.int .i64 61) := blk3.cell (by omega)
    have hS4 : v1 = 0 ∨ v1 = 1 ∨ v1 = 2 ∨ v1 = 3 := by omega
    obtain ⟨s0, hs0, hs1, hs2⟩ : ∃ s0 : Int, -1000 ≤ s0 ∧ s0 ≤ 1000 ∧ (v1 = 0 ∧ s0 = 0 ∨ v1 = 1 ∧ s0 = -1 ∨ v1 = 2 ∧ s0 = 60 ∨ v1 = 3 ∧ s0 = 61) := by
      rcases hS4 with h | h | h | h
      · exact ⟨0, by omega, by omega, .inl ⟨h, rfl⟩⟩
      · exact ⟨-1, by omega, by omega, .inr (.inl ⟨h, rfl⟩)⟩
      · exact ⟨60, by omega, by omega, .inr (.inr (.inl ⟨h, rfl⟩))⟩
      · exact ⟨61, by omega, by omega, .inr (.inr (.inr ⟨h, rfl⟩))⟩
    have I4 := I3.set0 s0
    have row4 := row3.turned (Turned.set (i := 0) (E := (· = 25)) I3.lay rfl (Nat.le_refl q0) (Nat.lt_succ_self q0) (.int .i64 s0)) (by decide)
    have FIN : Hid _ := sp_end (c := c) I4 row4 ⟨hs0, hs1, hS.2.2⟩ HLO.out (by omega)
    obtain ⟨l0, l1⟩ := I3.lay.cells
    obtain ⟨f0, f1⟩ := I3.lay.frozen
    obtain ⟨m0, m1⟩ := I3.res.cells
    obtain ⟨n0, n1⟩ := I3.res.frozen
    have lq0 := I3.lay.lt
    have lq1 := I3.res.lt
    have hne : ¬ q0 = q1 := Nat.ne_of_lt I3.pq.2
    have hne' : ¬ q1 = q0 := fun e => hne e.symm
    clear I3 I4 row3 row4 blk3 hS4
    rcases hs2 with ⟨rfl, rfl⟩ | ⟨rfl, rfl⟩ | ⟨rfl, rfl⟩ | ⟨rfl, rfl⟩
    all_goals
      go_wp2
      exact bodyPost_ret (v := .agg #[.int .i64 _, .slice (gA g) n (gC g)]) (by simp [results, Tryd.results39, go_sem, m0, m1]) rfl FIN.out
  · by_cases h1 : v0 = 1
    · subst h1
      have p4 := pk_pos C m c1 2
      have r4 := pk_range C m c1 2
      have r4' := r4.2 (by omega)
      have k4 := pick_any B p m cap ao C c1 2 _ I1.cur (by omega) (by omega)
      go_wp2_with fail
      refine k4.mono ?_
      rintro _ w2 ⟨rfl, c2', t2⟩
      have I3 := I1.pick c2' t2
      obtain ⟨c2, ec2⟩ : ∃ x, pkC C m c1 2 = x := ⟨_, rfl⟩
      obtain ⟨N, eN⟩ : ∃ N : Nat, 120 + pkV C m c1 2 = (N : Int) := ⟨(120 + pkV C m c1 2).toNat, by omega⟩
      have hN : N ≤ 121 := by omega
      obtain ⟨v1, ev1⟩ : ∃ v, pkV C m c1 2 = v := ⟨_, rfl⟩
      rw [ev1] at r4 r4' eN ⊢
      rw [ec2] at I3 p4
      obtain ⟨r4, _⟩ := r4
      clear I1 row1 k4 c2' t2 ev1 ec2
      obtain ⟨l0, l1⟩ := I3.lay.cells
      obtain ⟨f0, f1⟩ := I3.lay.frozen
      have lq0 := I3.lay.lt
      have I3H : Hid _ := I3
      have hw2 : q0 ≤ w2.heap.size := Nat.le_of_lt lq0
      have hq1w : q1 < w2.heap.size := I3.res.lt
      clear I3
      go_upto_region 14 with (first
        | (at_make; refine wpList_make_full _ rfl _ _ 23 rfl q0 74 i0 _ 2 Tryd.underlying23 hi hz0 hz1 .i64 .i64 _ _ N rfl rfl (by first | rfl | exact eN) (by first | rfl | exact eN) (by rw [hz2]; omega) (by unfold maxLen; omega) hw2 ?_; intro w3 hown hgrow; have hb3 : Below w2.heap.size w2 w3 := (Below.refl _ _).grown hgrow (Nat.le_refl _) (fun k hk => by simp at hk); have I4 := SpI.on I3H.out hb3; obtain ⟨l0', l1'⟩ := I4.lay.cells; obtain ⟨f0', f1'⟩ := I4.lay.frozen; have lq0' := I4.lay.lt; clear l0 l1 f0 f1 lq0))
      obtain ⟨bb, ebb⟩ : ∃ b, w2.heap.size = b := ⟨_, rfl⟩
      have blk := Blk.made hown rfl rfl (g := fun _ => .int .i64 0) (fun i hi => by match i, hi with | 0, _ => rfl | 1, _ => rfl)
      rw [ebb] at blk ⊢
      obtain ⟨g', eg1, eg2⟩ := gA_some bb N
      have row4 : CRow w3 g' N (fun _ => 0) (fun _ => 0) := .inr ⟨bb, N * 2, _, eg1, Nat.le_refl _, blk, fun i hi j hj => by simp [two]⟩
      have I5 := I4.set1 (.slice (some ⟨bb, 0, none⟩) N N)
      have row5 := row4.turned (Turned.set (i := 1) (E := (· = 25)) I4.lay rfl (Nat.le_refl q0) (Nat.lt_succ_self q0) (.slice (some ⟨bb, 0, none⟩) N N)) (by decide)
      have hbb : p < bb ∧ bb ≠ q0 ∧ bb ≠ q1 := by
        have := I4.pq
        omega
      have hlo' : ∀ ad, gA g' = some ad → lo ≤ ad.block := fun ad had => by
        rw [eg1] at had
        cases had
        show lo ≤ bb
        have := LW.out
        omega
      have ESL : Hid (Value.slice (some ⟨bb, 0, none⟩) N N = .slice (gA g') N (gC g')) := by show _ = _; rw [eg1, eg2]
      have EG1 : Hid (gA g' = some ⟨bb, 0, none⟩) := eg1
      have HL' : Hid _ := hlo'
      have HBB : Hid _ := hbb
      obtain ⟨U, eU⟩ : ∃ U, w3.setCell ⟨q0, 1, none⟩ (.slice (some ⟨bb, 0, none⟩) N N) = U := ⟨_, rfl⟩
      rw [eU] at I5 row5 ⊢
      obtain ⟨l0, l1⟩ := I5.lay.cells
      have lq0 := I5.lay.lt
      clear I4 row4 l0' l1' f0' f1' lq0' hown hgrow hb3 blk eg1 eg2 hbb hlo' eU I3H eN ebb hw2 hq1w
      go_wp2
      clear l0 l1 lq0
      go_loopw [78] (fun i wr => ∃ k : Nat, k ≤ N ∧ i = .int .i64 k ∧ ∃ F T, SpI w wr B p m cap ao C c2 q0 q1 S (.slice (some ⟨bb, 0, none⟩) N N) ∧ CRow wr g' N F T) (fun i _ => N - (intOf i).toNat)
      case atStart => exact ⟨0, Nat.zero_le _, rfl, _, _, I5, row5⟩
      case round =>
        clear I5 row5
        obtain ⟨k, hk, rfl, F', T', I, R⟩ := hrel
        obtain ⟨l0, l1⟩ := I.lay.cells
        obtain ⟨f0, f1⟩ := I.lay.frozen
        have lq0 := I.lay.lt
        by_cases hlt : k < N
        · have hi1 : (k : Int) < (N : Int) := by omega
          have hfz : wr.frozen? ⟨bb, k * 2, none⟩ = false ∧ bb < wr.heap.size := by
            rcases id R with h | ⟨b, mm, f, e, _, h3, _⟩
            · omega
            · have e' := e
              rw [EG1.out] at e'
              cases e'
              exact ⟨Blk.frozen h3 _, h3.lt⟩
          obtain ⟨hfz, lbb⟩ := hfz
          have HI : Hid (SpI w (wr.setCell ⟨bb, k * 2, none⟩ (.int .i64 (-1))) B p m cap ao C c2 q0 q1 S (.slice (some ⟨bb, 0, none⟩) N N)) := I.put R hlt EG1.out HBB.out.1 HBB.out.2.1 HBB.out.2.2 _ _
          have HR : Hid _ := R.put0 hlt EG1.out (-1)
          have hcx : ∃ x, wr.cell? ⟨bb, k * 2, none⟩ = some x := by
            rcases id R with h | ⟨b, mm, f, e, h2, h3, _⟩
            · omega
            · rw [EG1.out] at e
              cases e
              exact ⟨_, h3.cell (by omega)⟩
          obtain ⟨xx, hcx⟩ := hcx
          clear I R
          go_wp2
          go_roundw
          case rel => exact ⟨k + 1, by omega, by go_num, _, _, HI.out, HR.out⟩
          case measure => simp [intOf] <;> omega
        · have hkN : k = N := by omega
          subst hkN
          have I6 : SpI w wr B p m cap ao C c2 q0 q1 S (.slice (gA g') k (gC g')) := by rw [← ESL.out]; exact I
          have FIN := sp_end (c := c) I6 R ⟨hS.1, hS.2.1, hN⟩ HL'.out (by omega)
          rw [← ESL.out] at FIN
          have FINH : Hid _ := FIN
          obtain ⟨m0, m1⟩ := I.res.cells
          obtain ⟨n0, n1⟩ := I.res.frozen
          have lq1 := I.res.lt
          have hne : ¬ q0 = q1 := Nat.ne_of_lt I.pq.2
          have hne' : ¬ q1 = q0 := fun e => hne e.symm
          clear I R I6 FIN
          go_wp2
          exact bodyPost_ret (v := .agg #[.int .i64 S, .slice (some ⟨bb, 0, none⟩) k k]) (by simp [results, Tryd.results39, go_sem, m0, m1]) rfl FINH.out
    · have h0' : (v0 == 0) = false := by simp [h0]
      have h1' : (v0 == 1) = false := by simp [h1]
      by_cases hn : n = 0
      · subst hn
        have FIN : Hid _ := sp_end (c := c) I1 row1 hS HLO.out (by omega)
        obtain ⟨l0, l1⟩ := I1.lay.cells
        have lq0 := I1.lay.lt
        obtain ⟨m0, m1⟩ := I1.res.cells
        obtain ⟨n0, n1⟩ := I1.res.frozen
        have lq1 := I1.res.lt
        have hne : ¬ q0 = q1 := Nat.ne_of_lt I1.pq.2
        have hne' : ¬ q1 = q0 := fun e => hne e.symm
        clear I1 row1
        go_wp2
        exact bodyPost_ret (v := .agg #[.int .i64 S, .slice (gA g) 0 (gC g)]) (by simp [results, Tryd.results39, go_sem, m0, m1]) rfl FIN.out
      · have hn1 : (0 : Int) < (n : Int) := by omega
        obtain ⟨b, hgb⟩ : ∃ b, gA g = some ⟨b, 0, none⟩ := by
          rcases id row1 with h | ⟨b, mm, f, e, _⟩
          · exact absurd h hn
          · exact ⟨b, e⟩
        have hbb : p < b ∧ b ≠ q0 ∧ b ≠ q1 := by
          rcases HGQ.out _ hgb with h | h
          · exact absurd h hn
          · exact h
        have GB : Hid (gA g = some ⟨b, 0, none⟩) := hgb
        have HBB : Hid _ := hbb
        rw [hgb] at I1 ⊢
        have p4 := pk_pos C m c1 (n : Int)
        have r4 := pk_range C m c1 (n : Int)
        have r4' := r4.2 (by omega)
        have k4 := fun W (hW : Cur W B p ao m cap C c1) => pick_any B p m cap ao C c1 (n : Int) W hW (by omega) (by omega)
        obtain ⟨k, ek⟩ : ∃ k : Nat, pkV C m c1 (n : Int) = (k : Int) := ⟨_, (Int.toNat_of_nonneg r4.1).symm⟩
        rw [ek] at r4 r4' k4
        obtain ⟨c2, ec2⟩ : ∃ x, pkC C m c1 (n : Int) = x := ⟨_, rfl⟩
        rw [ec2] at p4 k4
        have hkn : k < n := by omega
        have hkn' : (k : Int) < (n : Int) := by omega
        obtain ⟨l0, l1⟩ := I1.lay.cells
        have lq0 := I1.lay.lt
        have I1H : Hid _ := I1
        have R1H : Hid _ := row1
        have K4 : Hid _ := k4
        clear I1 row1 hgb hbb r4 ek ec2 k4
        go_upto_region 3 with fail
        clear l0 l1
        refine wp_region_any (by kernel_rfl) ?_
        refine InC.any (C := fun W => ∃ c', SpI w W B p m cap ao C c' q0 q1 S (.slice (some ⟨b, 0, none⟩) n (gC g))) _ _ _ _ ?_
        have I1 : SpI w w1.drew B p m cap ao C c1 q0 q1 S (.slice (some ⟨b, 0, none⟩) n (gC g)) := SpI.on I1H.out (Below.refl _ _).drew
        have C0 : ∃ c', SpI w w1.drew B p m cap ao C c' q0 q1 S (.slice (some ⟨b, 0, none⟩) n (gC g)) := ⟨_, I1⟩
        refine InC.take (i := 0) (v := .pointer (some ⟨q0, 1, none⟩)) rfl (by kernel_rfl) (by kernel_rfl) (by kernel_rfl) (fun _ _ _ h => h) C0 (Or.inl ⟨by rfl, ?_⟩) ?_
        · intro W hW
          go_simp
        refine InC.take (i := 1) (v := .slice (some ⟨b, 0, none⟩) n (gC g)) rfl (by kernel_rfl) (by kernel_rfl) (by kernel_rfl) (fun _ _ _ h => h) C0 (Or.inl ⟨by rfl, ?_⟩) ?_
        · intro W hW
          obtain ⟨_, hW⟩ := hW
          obtain ⟨y0, y1⟩ := hW.lay.cells
          go_simp
        refine InC.take (i := 2) (v := .pointer (some ⟨p, 0, none⟩)) rfl (by kernel_rfl) (by kernel_rfl) (by kernel_rfl) (fun _ _ _ h => h) C0 (Or.inl ⟨by rfl, ?_⟩) ?_
        · intro W hW
          go_simp
        refine InC.take (i := 3) (v := .pointer (some ⟨q0, 1, none⟩)) rfl (by kernel_rfl) (by kernel_rfl) (by kernel_rfl) (fun _ _ _ h => h) C0 (Or.inl ⟨by rfl, ?_⟩) ?_
        · intro W hW
          go_simp
        refine InC.take (i := 4) (v := .slice (some ⟨b, 0, none⟩) n (gC g)) rfl (by kernel_rfl) (by kernel_rfl) (by kernel_rfl) (fun _ _ _ h => h) C0 (Or.inl ⟨by rfl, ?_⟩) ?_
        · intro W hW
          obtain ⟨_, hW⟩ := hW
          obtain ⟨y0, y1⟩ := hW.lay.cells
          go_simp
        refine InC.take (i := 5) (v := .int .i64 (n : Int)) rfl (by kernel_rfl) (by kernel_rfl) (by kernel_rfl) (fun _ _ _ h => h) C0 (Or.inl ⟨by rfl, ?_⟩) ?_
        · intro W hW
          go_simp
        refine InC.next1 (i := 6) (by kernel_rfl) (InC.one rfl fun K hK => ?_)
        go_simp
        refine (K4.out _ I1.cur).mono ?_
        rintro _ w2 ⟨rfl, c2', t2⟩
        have I2 := I1.pick c2' t2
        have row2 : CRow w2 g n F T := CRow.turned (CRow.drew R1H.out) t2 (by decide)
        have C2 : ∃ c', SpI w w2 B p m cap ao C c' q0 q1 S (.slice (some ⟨b, 0, none⟩) n (gC g)) := ⟨_, I2⟩
        refine hK _ _ C2 ?_
        clear hK K I1 C0 c2' t2
        refine InC.next1 (i := 7) (by kernel_rfl) (InC.one rfl fun K hK => ?_)
        go_simp
        refine hK _ _ C2 ?_
        clear hK K
        refine InC.next1 (i := 8) (by kernel_rfl) (InC.one rfl fun K hK => ?_)
        go_simp
        refine hK _ _ C2 ?_
        clear hK K C2
        refine InC.done (by kernel_rfl) ?_
        have p3 := pk_pos C m c2 3
        have r3 := pk_range C m c2 3
        have r3' := r3.2 (by omega)
        have k3 := pick_any B p m cap ao C c2 3 w2 I2.cur (by omega) (by omega)
        go_wp2_with fail
        refine k3.mono ?_
        rintro _ w3 ⟨rfl, c3', t3⟩
        have I3 := I2.pick c3' t3
        have row3 := row2.turned t3 (by decide)
        obtain ⟨v3, ev3⟩ : ∃ v, pkV C m c2 3 = v := ⟨_, rfl⟩
        obtain ⟨c3, ec3⟩ : ∃ x, pkC C m c2 3 = x := ⟨_, rfl⟩
        rw [ev3] at r3 r3' ⊢
        rw [ec3] at I3 p3
        obtain ⟨r3, _⟩ := r3
        have I3H : Hid (SpI w w3 B p m cap ao C c3 q0 q1 S (.slice (some ⟨b, 0, none⟩) n (gC g))) := I3
        have R3H : Hid (CRow w3 g n F T) := row3
        clear I2 row2 k3 c3' t3 ev3 ec3 I3 row3 K4
        have hwr : IntKind.i64.wrap (S - 1) = S - 1 := by
          obtain ⟨a, b, _⟩ := hS
          simp [IntKind.wrap, IntKind.bits, IntKind.signed]
          omega
        obtain rfl | rfl | rfl : v3 = 0 ∨ v3 = 1 ∨ v3 = 2 := by omega
        · go_upto_region 7 with fail
          refine wp_region_any (by kernel_rfl) ?_
          refine InC.any (C := fun W => ∃ c', SpI w W B p m cap ao C c' q0 q1 S (.slice (some ⟨b, 0, none⟩) n (gC g))) _ _ _ _ ?_
          have I4 : SpI w w3.drew B p m cap ao C c3 q0 q1 S (.slice (some ⟨b, 0, none⟩) n (gC g)) := SpI.on I3H.out (Below.refl _ _).drew
          have R4 : CRow w3.drew g n F T := CRow.drew R3H.out
          have C0 : ∃ c', SpI w w3.drew B p m cap ao C c' q0 q1 S (.slice (some ⟨b, 0, none⟩) n (gC g)) := ⟨_, I4⟩
          refine InC.take (i := 0) (v := .pointer (some ⟨b, k * 2, none⟩)) rfl (by kernel_rfl) (by kernel_rfl) (by kernel_rfl) (fun _ _ _ h => h) C0 (Or.inl ⟨by rfl, ?_⟩) ?_
          · intro W hW
            go_simp
          refine InC.take (i := 1) (v := .pointer (some ⟨q0, 0, none⟩)) rfl (by kernel_rfl) (by kernel_rfl) (by kernel_rfl) (fun _ _ _ h => h) C0 (Or.inl ⟨by rfl, ?_⟩) ?_
          · intro W hW
            go_simp
          refine InC.take (i := 2) (v := .int .i64 S) rfl (by kernel_rfl) (by kernel_rfl) (by kernel_rfl) (fun _ _ _ h => h) C0 (Or.inl ⟨by rfl, ?_⟩) ?_
          · intro W hW
            obtain ⟨_, hW⟩ := hW
            obtain ⟨y0, y1⟩ := hW.lay.cells
            go_simp
          refine InC.take (i := 3) (v := .int .i64 (S - 1)) rfl (by kernel_rfl) (by kernel_rfl) (by kernel_rfl) (fun _ _ _ h => h) C0 (Or.inl ⟨by rfl, ?_⟩) ?_
          · intro W hW
            go_simp
          refine InC.take (i := 4) (v := .pointer (some ⟨q0, 0, none⟩)) rfl (by kernel_rfl) (by kernel_rfl) (by kernel_rfl) (fun _ _ _ h => h) C0 (Or.inl ⟨by rfl, ?_⟩) ?_
          · intro W hW
            go_simp
          refine InC.take (i := 5) (v := .int .i64 S) rfl (by kernel_rfl) (by kernel_rfl) (by kernel_rfl) (fun _ _ _ h => h) C0 (Or.inl ⟨by rfl, ?_⟩) ?_
          · intro W hW
            obtain ⟨_, hW⟩ := hW
            obtain ⟨y0, y1⟩ := hW.lay.cells
            go_simp
          refine InC.take (i := 7) (v := .pointer (some ⟨p, 0, none⟩)) rfl (by kernel_rfl) (by kernel_rfl) (by kernel_rfl) (fun _ _ _ h => h) C0 (Or.inl ⟨by rfl, ?_⟩) ?_
          · intro W hW
            go_simp
          have fin : ∀ (W : World) (c4 : Cu) (q : Nat), SpI w W B p m cap ao C c4 q0 q1 S (.slice (some ⟨b, 0, none⟩) n (gC g)) → CRow W g n F T → c4.pos ≤ c3.pos + 1 → ∀ z : Int, Hid (SpI w (W.setCell ⟨b, k * 2, none⟩ (.int .i64 z)) B p m cap ao C c4 q0 q1 S (.slice (some ⟨b, 0, none⟩) n (gC g)) ∧ SpP w (((W.setCell ⟨b, k * 2, none⟩ (.int .i64 z)).setCell ⟨q1, 0, none⟩ (.int .i64 S)).setCell ⟨q1, 1, none⟩ (.slice (some ⟨b, 0, none⟩) n (gC g))) B p m cap ao C c lo (.returned (.agg #[.int .i64 S, .slice (some ⟨b, 0, none⟩) n (gC g)]))) := fun W c4 q hI hR hc z => by
            have hI' := hI.put hR hkn GB.out HBB.out.1 HBB.out.2.1 HBB.out.2.2 (k * 2) (.int .i64 z)
            refine ⟨hI', ?_⟩
            have hR' := hR.put0 hkn GB.out z
            have hI2 : SpI w (W.setCell ⟨b, k * 2, none⟩ (.int .i64 z)) B p m cap ao C c4 q0 q1 S (.slice (gA g) n (gC g)) := by rw [GB.out]; exact hI'
            have := sp_end (c := c) hI2 hR' hS HLO.out (by omega)
            rwa [GB.out] at this
          have bx : ∀ W : World, Blk (W.alloc (.cells #[.int .i64 (-2), .int .i64 (S - 1), .int .i64 S] 3)) W.heap.size 3 3 (fun i => if i = 0 then .int .i64 (-2) else if i = 1 then .int .i64 (S - 1) else .int .i64 S) := fun W => Blk.lay3 W _ _ _ _
          have k7 := fun W (hW : Cur W B p ao m cap C c3) => pick_any B p m cap ao C c3 3 W hW (by omega) (by omega)
          have p7 := pk_pos C m c3 3
          have r7 := pk_range C m c3 3
          have r7' := r7.2 (by omega)
          obtain ⟨t7, et7⟩ : ∃ t : Nat, pkV C m c3 3 = (t : Int) := ⟨_, (Int.toNat_of_nonneg r7.1).symm⟩
          obtain ⟨c4, ec4⟩ : ∃ x, pkC C m c3 3 = x := ⟨_, rfl⟩
          rw [et7] at r7' k7
          rw [ec4] at p7 k7
          have ht7 : t7 < 3 := by omega
          have ht7' : (t7 : Int) < 3 := by omega
          clear r7 et7 ec4
          refine InC.next2 (i := 6) (j := 8) (by kernel_rfl) (InC.one rfl fun K hK => ?_) (InC.one rfl fun K hK => ?_)
          · go_simp
            have bA : Below w3.heap.size w3 (w3.alloc (.cells #[.int .i64 (-2), .int .i64 (S - 1), .int .i64 S] 3)).drew := (below_alloc (Below.refl _ _) _).drew
            have IA := SpI.on I3H.out bA
            have RA := CRow.on R3H.out bA
            have xA := Blk.drew (bx w3)
            refine hK _ _ ⟨_, IA⟩ ?_
            clear hK K
            refine InC.next1 (i := 8) (by kernel_rfl) (InC.one rfl fun K hK => ?_)
            go_simp
            refine (k7 _ IA.cur).mono ?_
            rintro _ w4 ⟨rfl, c4', t4⟩
            have I5 := IA.pick c4' t4
            have R5 := RA.turned t4 (by decide)
            have x5 := Blk.turned xA t4 (.inl (by decide))
            refine hK _ _ ⟨_, I5⟩ ?_
            obtain ⟨qb, eqb⟩ : ∃ q, w3.heap.size = q := ⟨_, rfl⟩
            rw [eqb] at x5 ⊢
            obtain ⟨z7, ez7⟩ : ∃ z : Int, (if t7 = 0 then -2 else if t7 = 1 then S - 1 else S) = z := ⟨_, rfl⟩
            have cz : w4.cell? ⟨qb, t7, none⟩ = some (.int .i64 z7) := by
              rw [x5.cell ht7, ← ez7]
              by_cases h0 : t7 = 0
              · rw [if_pos h0, if_pos h0]
              · rw [if_neg h0, if_neg h0]
                by_cases h1 : t7 = 1
                · rw [if_pos h1, if_pos h1]
                · rw [if_neg h1, if_neg h1]
            clear hK K bA IA RA xA c4' t4 x5 eqb ez7 I4 R4 C0 I3H R3H
            have cb : w4.cell? ⟨b, k * 2, none⟩ = some (.int .i64 (F k)) ∧ b < w4.heap.size ∧ w4.frozen? ⟨b, k * 2, none⟩ = false := by
              rcases id R5 with h | ⟨b', mm, f, e, h2, h3, h4⟩
              · omega
              · rw [GB.out] at e
                cases e
                have a0 := h4 k hkn 0 (by omega)
                refine ⟨?_, h3.lt, Blk.frozen h3 _⟩
                rw [h3.cell (by omega)]; exact congrArg some a0
            obtain ⟨cb0, lbb, fz⟩ := cb
            have FI := fin w4 c4 0 I5 R5 (by omega) z7
            have C5 : ∃ c', SpI w w4 B p m cap ao C c' q0 q1 S (.slice (some ⟨b, 0, none⟩) n (gC g)) := ⟨_, I5⟩
            refine InC.next1 (i := 9) (by kernel_rfl) (InC.one rfl fun K hK => ?_)
            go_simp
            refine hK _ _ C5 ?_
            clear hK K
            refine InC.next1 (i := 10) (by kernel_rfl) (InC.one rfl fun K hK => ?_)
            go_simp
            refine hK _ _ C5 ?_
            clear hK K
            refine InC.next1 (i := 11) (by kernel_rfl) (InC.one rfl fun K hK => ?_)
            go_simp
            refine hK _ _ C5 ?_
            clear hK K
            refine InC.next1 (i := 12) (by kernel_rfl) (InC.one rfl fun K hK => ?_)
            go_simp
            refine hK _ _ C5 ?_
            clear hK K
            refine InC.next1 (i := 13) (by kernel_rfl) (InC.one rfl fun K hK => ?_)
            go_simp
            refine hK _ _ ⟨_, FI.out.1⟩ ?_
            clear hK K
            refine InC.done (by kernel_rfl) ?_
            have I6 := FI.out.1
            obtain ⟨l0, l1⟩ := I6.lay.cells
            have lq0 := I6.lay.lt
            obtain ⟨m0, m1⟩ := I6.res.cells
            obtain ⟨n0, n1⟩ := I6.res.frozen
            have lq1 := I6.res.lt
            have hne : ¬ q0 = q1 := Nat.ne_of_lt I6.pq.2
            have hne' : ¬ q1 = q0 := fun e => hne e.symm
            have FINH : Hid _ := FI.out.2
            obtain ⟨WF, eWF⟩ : ∃ W, w4.setCell ⟨b, k * 2, none⟩ (.int .i64 z7) = W := ⟨_, rfl⟩
            rw [eWF] at l0 l1 lq0 m0 m1 n0 n1 lq1 FINH ⊢
            clear I6 FI C5 I5 R5 cb0 fz cz fin bx k7 eWF
            go_wp2
            exact bodyPost_ret (v := .agg #[.int .i64 S, .slice (some ⟨b, 0, none⟩) n (gC g)]) (by simp [results, Tryd.results39, go_sem, m0, m1]) rfl FINH.out
          · go_simp
            refine (k7 _ I4.cur).mono ?_
            rintro _ w4 ⟨rfl, c4', t4⟩
            have IA := I4.pick c4' t4
            have RA := R4.turned t4 (by decide)
            refine hK _ _ ⟨_, IA⟩ ?_
            clear hK K
            refine InC.next1 (i := 6) (by kernel_rfl) (InC.one rfl fun K hK => ?_)
            go_simp
            have bA : Below w4.heap.size w4 (w4.alloc (.cells #[.int .i64 (-2), .int .i64 (S - 1), .int .i64 S] 3)) := below_alloc (Below.refl _ _) _
            have I5 := IA.on bA
            have R5 := RA.on bA
            have x5 := bx w4
            refine hK _ _ ⟨_, I5⟩ ?_
            obtain ⟨W5, eW5⟩ : ∃ W, w4.alloc (.cells #[.int .i64 (-2), .int .i64 (S - 1), .int .i64 S] 3) = W := ⟨_, rfl⟩
            obtain ⟨qb, eqb⟩ : ∃ q, w4.heap.size = q := ⟨_, rfl⟩
            rw [eW5] at I5 R5 x5 ⊢
            rw [eqb] at x5 ⊢
            obtain ⟨z7, ez7⟩ : ∃ z : Int, (if t7 = 0 then -2 else if t7 = 1 then S - 1 else S) = z := ⟨_, rfl⟩
            have cz : W5.cell? ⟨qb, t7, none⟩ = some (.int .i64 z7) := by
              rw [x5.cell ht7, ← ez7]
              by_cases h0 : t7 = 0
              · rw [if_pos h0, if_pos h0]
              · rw [if_neg h0, if_neg h0]
                by_cases h1 : t7 = 1
                · rw [if_pos h1, if_pos h1]
                · rw [if_neg h1, if_neg h1]
            clear hK K bA IA RA c4' t4 x5 eqb eW5 ez7 I4 R4 C0 I3H R3H
            have cb : W5.cell? ⟨b, k * 2, none⟩ = some (.int .i64 (F k)) ∧ b < W5.heap.size ∧ W5.frozen? ⟨b, k * 2, none⟩ = false := by
              rcases id R5 with h | ⟨b', mm, f, e, h2, h3, h4⟩
              · omega
              · rw [GB.out] at e
                cases e
                have a0 := h4 k hkn 0 (by omega)
                refine ⟨?_, h3.lt, Blk.frozen h3 _⟩
                rw [h3.cell (by omega)]; exact congrArg some a0
            obtain ⟨cb0, lbb, fz⟩ := cb
            have FI := fin W5 c4 0 I5 R5 (by omega) z7
            have C5 : ∃ c', SpI w W5 B p m cap ao C c' q0 q1 S (.slice (some ⟨b, 0, none⟩) n (gC g)) := ⟨_, I5⟩
            refine InC.next1 (i := 9) (by kernel_rfl) (InC.one rfl fun K hK => ?_)
            go_simp
            refine hK _ _ C5 ?_
            clear hK K
            refine InC.next1 (i := 10) (by kernel_rfl) (InC.one rfl fun K hK => ?_)
            go_simp
            refine hK _ _ C5 ?_
            clear hK K
            refine InC.next1 (i := 11) (by kernel_rfl) (InC.one rfl fun K hK => ?_)
            go_simp
            refine hK _ _ C5 ?_
            clear hK K
            refine InC.next1 (i := 12) (by kernel_rfl) (InC.one rfl fun K hK => ?_)
            go_simp
            refine hK _ _ C5 ?_
            clear hK K
            refine InC.next1 (i := 13) (by kernel_rfl) (InC.one rfl fun K hK => ?_)
            go_simp
            refine hK _ _ ⟨_, FI.out.1⟩ ?_
            clear hK K
            refine InC.done (by kernel_rfl) ?_
            have I6 := FI.out.1
            obtain ⟨l0, l1⟩ := I6.lay.cells
            have lq0 := I6.lay.lt
            obtain ⟨m0, m1⟩ := I6.res.cells
            obtain ⟨n0, n1⟩ := I6.res.frozen
            have lq1 := I6.res.lt
            have hne : ¬ q0 = q1 := Nat.ne_of_lt I6.pq.2
            have hne' : ¬ q1 = q0 := fun e => hne e.symm
            have FINH : Hid _ := FI.out.2
            obtain ⟨WF, eWF⟩ : ∃ W, W5.setCell ⟨b, k * 2, none⟩ (.int .i64 z7) = W := ⟨_, rfl⟩
            rw [eWF] at l0 l1 lq0 m0 m1 n0 n1 lq1 FINH ⊢
            clear I6 FI C5 I5 R5 cb0 fz cz fin bx k7 eWF
            go_wp2
            exact bodyPost_ret (v := .agg #[.int .i64 S, .slice (some ⟨b, 0, none⟩) n (gC g)]) (by simp [results, Tryd.results39, go_sem, m0, m1]) rfl FINH.out
        · go_upto_region 9 with fail
          refine wp_region_any (by kernel_rfl) ?_
          refine InC.any (C := fun W => ∃ c', SpI w W B p m cap ao C c' q0 q1 S (.slice (some ⟨b, 0, none⟩) n (gC g))) _ _ _ _ ?_
          have I4 : SpI w w3.drew B p m cap ao C c3 q0 q1 S (.slice (some ⟨b, 0, none⟩) n (gC g)) := SpI.on I3H.out (Below.refl _ _).drew
          have R4 : CRow w3.drew g n F T := CRow.drew R3H.out
          have C0 : ∃ c', SpI w w3.drew B p m cap ao C c' q0 q1 S (.slice (some ⟨b, 0, none⟩) n (gC g)) := ⟨_, I4⟩
          refine InC.take (i := 0) (v := .pointer (some ⟨b, k * 2, none⟩)) rfl (by kernel_rfl) (by kernel_rfl) (by kernel_rfl) (fun _ _ _ h => h) C0 (Or.inl ⟨by rfl, ?_⟩) ?_
          · intro W hW
            go_simp
          refine InC.take (i := 1) (v := .pointer (some ⟨q0, 0, none⟩)) rfl (by kernel_rfl) (by kernel_rfl) (by kernel_rfl) (fun _ _ _ h => h) C0 (Or.inl ⟨by rfl, ?_⟩) ?_
          · intro W hW
            go_simp
          refine InC.take (i := 2) (v := .int .i64 S) rfl (by kernel_rfl) (by kernel_rfl) (by kernel_rfl) (fun _ _ _ h => h) C0 (Or.inl ⟨by rfl, ?_⟩) ?_
          · intro W hW
            obtain ⟨_, hW⟩ := hW
            obtain ⟨y0, y1⟩ := hW.lay.cells
            go_simp
          refine InC.take (i := 3) (v := .int .i64 (S - 1)) rfl (by kernel_rfl) (by kernel_rfl) (by kernel_rfl) (fun _ _ _ h => h) C0 (Or.inl ⟨by rfl, ?_⟩) ?_
          · intro W hW
            go_simp
          refine InC.take (i := 4) (v := .pointer (some ⟨q0, 0, none⟩)) rfl (by kernel_rfl) (by kernel_rfl) (by kernel_rfl) (fun _ _ _ h => h) C0 (Or.inl ⟨by rfl, ?_⟩) ?_
          · intro W hW
            go_simp
          refine InC.take (i := 5) (v := .int .i64 S) rfl (by kernel_rfl) (by kernel_rfl) (by kernel_rfl) (fun _ _ _ h => h) C0 (Or.inl ⟨by rfl, ?_⟩) ?_
          · intro W hW
            obtain ⟨_, hW⟩ := hW
            obtain ⟨y0, y1⟩ := hW.lay.cells
            go_simp
          refine InC.take (i := 7) (v := .pointer (some ⟨p, 0, none⟩)) rfl (by kernel_rfl) (by kernel_rfl) (by kernel_rfl) (fun _ _ _ h => h) C0 (Or.inl ⟨by rfl, ?_⟩) ?_
          · intro W hW
            go_simp
          have fin : ∀ (W : World) (c4 : Cu) (q : Nat), SpI w W B p m cap ao C c4 q0 q1 S (.slice (some ⟨b, 0, none⟩) n (gC g)) → CRow W g n F T → c4.pos ≤ c3.pos + 1 → ∀ z : Int, Hid (SpI w (W.setCell ⟨b, k * 2 + 1, none⟩ (.int .i64 z)) B p m cap ao C c4 q0 q1 S (.slice (some ⟨b, 0, none⟩) n (gC g)) ∧ SpP w (((W.setCell ⟨b, k * 2 + 1, none⟩ (.int .i64 z)).setCell ⟨q1, 0, none⟩ (.int .i64 S)).setCell ⟨q1, 1, none⟩ (.slice (some ⟨b, 0, none⟩) n (gC g))) B p m cap ao C c lo (.returned (.agg #[.int .i64 S, .slice (some ⟨b, 0, none⟩) n (gC g)]))) := fun W c4 q hI hR hc z => by
            have hI' := hI.put hR hkn GB.out HBB.out.1 HBB.out.2.1 HBB.out.2.2 (k * 2 + 1) (.int .i64 z)
            refine ⟨hI', ?_⟩
            have hR' := hR.put1 hkn GB.out z
            have hI2 : SpI w (W.setCell ⟨b, k * 2 + 1, none⟩ (.int .i64 z)) B p m cap ao C c4 q0 q1 S (.slice (gA g) n (gC g)) := by rw [GB.out]; exact hI'
            have := sp_end (c := c) hI2 hR' hS HLO.out (by omega)
            rwa [GB.out] at this
          have bx : ∀ W : World, Blk (W.alloc (.cells #[.int .i64 (-2), .int .i64 (S - 1), .int .i64 S] 3)) W.heap.size 3 3 (fun i => if i = 0 then .int .i64 (-2) else if i = 1 then .int .i64 (S - 1) else .int .i64 S) := fun W => Blk.lay3 W _ _ _ _
          have k7 := fun W (hW : Cur W B p ao m cap C c3) => pick_any B p m cap ao C c3 3 W hW (by omega) (by omega)
          have p7 := pk_pos C m c3 3
          have r7 := pk_range C m c3 3
          have r7' := r7.2 (by omega)
          obtain ⟨t7, et7⟩ : ∃ t : Nat, pkV C m c3 3 = (t : Int) := ⟨_, (Int.toNat_of_nonneg r7.1).symm⟩
          obtain ⟨c4, ec4⟩ : ∃ x, pkC C m c3 3 = x := ⟨_, rfl⟩
          rw [et7] at r7' k7
          rw [ec4] at p7 k7
          have ht7 : t7 < 3 := by omega
          have ht7' : (t7 : Int) < 3 := by omega
          clear r7 et7 ec4
          refine InC.next2 (i := 6) (j := 8) (by kernel_rfl) (InC.one rfl fun K hK => ?_) (InC.one rfl fun K hK => ?_)
          · go_simp
            have bA : Below w3.heap.size w3 (w3.alloc (.cells #[.int .i64 (-2), .int .i64 (S - 1), .int .i64 S] 3)).drew := (below_alloc (Below.refl _ _) _).drew
            have IA := SpI.on I3H.out bA
            have RA := CRow.on R3H.out bA
            have xA := Blk.drew (bx w3)
            refine hK _ _ ⟨_, IA⟩ ?_
            clear hK K
            refine InC.next1 (i := 8) (by kernel_rfl) (InC.one rfl fun K hK => ?_)
            go_simp
            refine (k7 _ IA.cur).mono ?_
            rintro _ w4 ⟨rfl, c4', t4⟩
            have I5 := IA.pick c4' t4
            have R5 := RA.turned t4 (by decide)
            have x5 := Blk.turned xA t4 (.inl (by decide))
            refine hK _ _ ⟨_, I5⟩ ?_
            obtain ⟨qb, eqb⟩ : ∃ q, w3.heap.size = q := ⟨_, rfl⟩
            rw [eqb] at x5 ⊢
            obtain ⟨z7, ez7⟩ : ∃ z : Int, (if t7 = 0 then -2 else if t7 = 1 then S - 1 else S) = z := ⟨_, rfl⟩
            have cz : w4.cell? ⟨qb, t7, none⟩ = some (.int .i64 z7) := by
              rw [x5.cell ht7, ← ez7]
              by_cases h0 : t7 = 0
              · rw [if_pos h0, if_pos h0]
              · rw [if_neg h0, if_neg h0]
                by_cases h1 : t7 = 1
                · rw [if_pos h1, if_pos h1]
                · rw [if_neg h1, if_neg h1]
            clear hK K bA IA RA xA c4' t4 x5 eqb ez7 I4 R4 C0 I3H R3H
            have cb : w4.cell? ⟨b, k * 2 + 1, none⟩ = some (.int .i64 (T k)) ∧ b < w4.heap.size ∧ w4.frozen? ⟨b, k * 2 + 1, none⟩ = false := by
              rcases id R5 with h | ⟨b', mm, f, e, h2, h3, h4⟩
              · omega
              · rw [GB.out] at e
                cases e
                have a0 := h4 k hkn 1 (by omega)
                refine ⟨?_, h3.lt, Blk.frozen h3 _⟩
                rw [h3.cell (by omega)]; exact congrArg some a0
            obtain ⟨cb0, lbb, fz⟩ := cb
            have FI := fin w4 c4 0 I5 R5 (by omega) z7
            have C5 : ∃ c', SpI w w4 B p m cap ao C c' q0 q1 S (.slice (some ⟨b, 0, none⟩) n (gC g)) := ⟨_, I5⟩
            refine InC.next1 (i := 9) (by kernel_rfl) (InC.one rfl fun K hK => ?_)
            go_simp
            refine hK _ _ C5 ?_
            clear hK K
            refine InC.next1 (i := 10) (by kernel_rfl) (InC.one rfl fun K hK => ?_)
            go_simp
            refine hK _ _ C5 ?_
            clear hK K
            refine InC.next1 (i := 11) (by kernel_rfl) (InC.one rfl fun K hK => ?_)
            go_simp
            refine hK _ _ C5 ?_
            clear hK K
            refine InC.next1 (i := 12) (by kernel_rfl) (InC.one rfl fun K hK => ?_)
            go_simp
            refine hK _ _ C5 ?_
            clear hK K
            refine InC.next1 (i := 13) (by kernel_rfl) (InC.one rfl fun K hK => ?_)
            go_simp
            refine hK _ _ ⟨_, FI.out.1⟩ ?_
            clear hK K
            refine InC.done (by kernel_rfl) ?_
            have I6 := FI.out.1
            obtain ⟨l0, l1⟩ := I6.lay.cells
            have lq0 := I6.lay.lt
            obtain ⟨m0, m1⟩ := I6.res.cells
            obtain ⟨n0, n1⟩ := I6.res.frozen
            have lq1 := I6.res.lt
            have hne : ¬ q0 = q1 := Nat.ne_of_lt I6.pq.2
            have hne' : ¬ q1 = q0 := fun e => hne e.symm
            have FINH : Hid _ := FI.out.2
            obtain ⟨WF, eWF⟩ : ∃ W, w4.setCell ⟨b, k * 2 + 1, none⟩ (.int .i64 z7) = W := ⟨_, rfl⟩
            rw [eWF] at l0 l1 lq0 m0 m1 n0 n1 lq1 FINH ⊢
            clear I6 FI C5 I5 R5 cb0 fz cz fin bx k7 eWF
            go_wp2
            exact bodyPost_ret (v := .agg #[.int .i64 S, .slice (some ⟨b, 0, none⟩) n (gC g)]) (by simp [results, Tryd.results39, go_sem, m0, m1]) rfl FINH.out
          · go_simp
            refine (k7 _ I4.cur).mono ?_
            rintro _ w4 ⟨rfl, c4', t4⟩
            have IA := I4.pick c4' t4
            have RA := R4.turned t4 (by decide)
            refine hK _ _ ⟨_, IA⟩ ?_
            clear hK K
            refine InC.next1 (i := 6) (by kernel_rfl) (InC.one rfl fun K hK => ?_)
            go_simp
            have bA : Below w4.heap.size w4 (w4.alloc (.cells #[.int .i64 (-2), .int .i64 (S - 1), .int .i64 S] 3)) := below_alloc (Below.refl _ _) _
            have I5 := IA.on bA
            have R5 := RA.on bA
            have x5 := bx w4
            refine hK _ _ ⟨_, I5⟩ ?_
            obtain ⟨W5, eW5⟩ : ∃ W, w4.alloc (.cells #[.int .i64 (-2), .int .i64 (S - 1), .int .i64 S] 3) = W := ⟨_, rfl⟩
            obtain ⟨qb, eqb⟩ : ∃ q, w4.heap.size = q := ⟨_, rfl⟩
            rw [eW5] at I5 R5 x5 ⊢
            rw [eqb] at x5 ⊢
            obtain ⟨z7, ez7⟩ : ∃ z : Int, (if t7 = 0 then -2 else if t7 = 1 then S - 1 else S) = z := ⟨_, rfl⟩
            have cz : W5.cell? ⟨qb, t7, none⟩ = some (.int .i64 z7) := by
              rw [x5.cell ht7, ← ez7]
              by_cases h0 : t7 = 0
              · rw [if_pos h0, if_pos h0]
              · rw [if_neg h0, if_neg h0]
                by_cases h1 : t7 = 1
                · rw [if_pos h1, if_pos h1]
                · rw [if_neg h1, if_neg h1]
            clear hK K bA IA RA c4' t4 x5 eqb eW5 ez7 I4 R4 C0 I3H R3H
            have cb : W5.cell? ⟨b, k * 2 + 1, none⟩ = some (.int .i64 (T k)) ∧ b < W5.heap.size ∧ W5.frozen? ⟨b, k * 2 + 1, none⟩ = false := by
              rcases id R5 with h | ⟨b', mm, f, e, h2, h3, h4⟩
              · omega
              · rw [GB.out] at e
                cases e
                have a0 := h4 k hkn 1 (by omega)
                refine ⟨?_, h3.lt, Blk.frozen h3 _⟩
                rw [h3.cell (by omega)]; exact congrArg some a0
            obtain ⟨cb0, lbb, fz⟩ := cb
            have FI := fin W5 c4 0 I5 R5 (by omega) z7
            have C5 : ∃ c', SpI w W5 B p m cap ao C c' q0 q1 S (.slice (some ⟨b, 0, none⟩) n (gC g)) := ⟨_, I5⟩
            refine InC.next1 (i := 9) (by kernel_rfl) (InC.one rfl fun K hK => ?_)
            go_simp
            refine hK _ _ C5 ?_
            clear hK K
            refine InC.next1 (i := 10) (by kernel_rfl) (InC.one rfl fun K hK => ?_)
            go_simp
            refine hK _ _ C5 ?_
            clear hK K
            refine InC.next1 (i := 11) (by kernel_rfl) (InC.one rfl fun K hK => ?_)
            go_simp
            refine hK _ _ C5 ?_
            clear hK K
            refine InC.next1 (i := 12) (by kernel_rfl) (InC.one rfl fun K hK => ?_)
            go_simp
            refine hK _ _ C5 ?_
            clear hK K
            refine InC.next1 (i := 13) (by kernel_rfl) (InC.one rfl fun K hK => ?_)
            go_simp
            refine hK _ _ ⟨_, FI.out.1⟩ ?_
            clear hK K
            refine InC.done (by kernel_rfl) ?_
            have I6 := FI.out.1
            obtain ⟨l0, l1⟩ := I6.lay.cells
            have lq0 := I6.lay.lt
            obtain ⟨m0, m1⟩ := I6.res.cells
            obtain ⟨n0, n1⟩ := I6.res.frozen
            have lq1 := I6.res.lt
            have hne : ¬ q0 = q1 := Nat.ne_of_lt I6.pq.2
            have hne' : ¬ q1 = q0 := fun e => hne e.symm
            have FINH : Hid _ := FI.out.2
            obtain ⟨WF, eWF⟩ : ∃ W, W5.setCell ⟨b, k * 2 + 1, none⟩ (.int .i64 z7) = W := ⟨_, rfl⟩
            rw [eWF] at l0 l1 lq0 m0 m1 n0 n1 lq1 FINH ⊢
            clear I6 FI C5 I5 R5 cb0 fz cz fin bx k7 eWF
            go_wp2
            exact bodyPost_ret (v := .agg #[.int .i64 S, .slice (some ⟨b, 0, none⟩) n (gC g)]) (by simp [results, Tryd.results39, go_sem, m0, m1]) rfl FINH.out
        · have I3 := I3H.out
          have R3 := R3H.out
          have cF : w3.cell? ⟨b, k * 2, none⟩ = some (.int .i64 (F k)) ∧ w3.cell? ⟨b, k * 2 + 1, none⟩ = some (.int .i64 (T k)) ∧ b < w3.heap.size ∧ w3.frozen? ⟨b, k * 2 + 1, none⟩ = false := by
            rcases id R3 with h | ⟨b', mm, f, e, h2, h3, h4⟩
            · omega
            · rw [GB.out] at e
              cases e
              have a0 := h4 k hkn 0 (by omega)
              have a1 := h4 k hkn 1 (by omega)
              refine ⟨?_, ?_, h3.lt, Blk.frozen h3 _⟩
              · rw [h3.cell (by omega)]; exact congrArg some a0
              · rw [h3.cell (by omega)]; exact congrArg some a1
          obtain ⟨cF0, cF1, lbb, fz⟩ := cF
          have I4 := I3.put R3 hkn GB.out HBB.out.1 HBB.out.2.1 HBB.out.2.2 (k * 2 + 1) (.int .i64 (F k))
          have R4 := R3.put1 hkn GB.out (F k)
          have I5 : SpI w (w3.setCell ⟨b, k * 2 + 1, none⟩ (.int .i64 (F k))) B p m cap ao C c3 q0 q1 S (.slice (gA g) n (gC g)) := by rw [GB.out]; exact I4
          have FIN := sp_end (c := c) I5 R4 hS HLO.out (by omega)
          rw [GB.out] at FIN
          have FINH : Hid _ := FIN
          obtain ⟨l0, l1⟩ := I3.lay.cells
          have lq0 := I3.lay.lt
          obtain ⟨m0, m1⟩ := I3.res.cells
          obtain ⟨n0, n1⟩ := I3.res.frozen
          have lq1 := I3.res.lt
          have hne : ¬ q0 = q1 := Nat.ne_of_lt I3.pq.2
          have hne' : ¬ q1 = q0 := fun e => hne e.symm
          have hb0 : ¬ b = q0 := HBB.out.2.1
          have hb1 : ¬ b = q1 := HBB.out.2.2
          have hb0' : ¬ q0 = b := fun e => hb0 e.symm
          have hb1' : ¬ q1 = b := fun e => hb1 e.symm
          clear I3 R3 I4 R4 I5 FIN I3H R3H
          go_wp2
          exact bodyPost_ret (v := .agg #[.int .i64 S, .slice (some ⟨b, 0, none⟩) n (gC g)]) (by simp [results, Tryd.results39, go_sem, m0, m1]) rfl FINH.out

end Go.Proofs.YtlpopfhaephfaaaDoor
