import Derived.Test.YtlpopfhaephfaabDM13a
import Derived.Test.YtlpopfhaephfaabDM13b
import Derived.Test.YtlpopfhaephfaabDM13c
import Derived.Test.YtlpopfhaephfaabDM13d
namespace Go.Proofs.Ytlpopfhaephfaab
open Go.RowKit Go.Maps Go.Sort

set_option maxRecDepth 100000 in
set_option maxHeartbeats 2000000 in
theorem specDo_bad (S op f d : Int) (g n lo hi : Nat) (F T : Nat → Int) (v : Value) (ok : Bool) (ns nd : Nat) (X : Nat → Sec) (D : Nat → Bool) (w : World) (hrow : Row w g 88 2 n (two F T)) (hs : StF w lo hi v ok ns nd X D) (hbad : stOk S n F T ok ns nd X D = false ∨ evOk S n F T op f d = false) :
    Calls Try.prog 16 #[.agg #[.int .i64 S, .slice (some ⟨g, 0, none⟩) n n], v, .agg #[.int .i64 op, .int .i64 f, .int .i64 d]] w fun e w' => ∃ u, e = .returned u ∧ DoR w w' u 1 false 0 0 X D ∧ Below w.heap.size w w' := by
  obtain ⟨_, _, rfl, ⟨a1, c1, rfl, hX0⟩, ⟨a2, c2, rfl, hD0⟩⟩ := id hs
  obtain ⟨V, eV⟩ : ∃ V, (((w.alloc (.cells #[.int .i64 S, .slice (some ⟨g, 0, none⟩) n n] 31)).alloc (.cells #[.bool ok, .slice a1 ns c1, .slice a2 nd c2] 44)).alloc (.cells #[.int .i64 op, .int .i64 f, .int .i64 d] 33)).alloc (.cells #[.int .i64 0, .bool false, .slice none 0 0, .slice none 0 0] 46) = V := ⟨_, rfl⟩
  have sV : V.heap.size = w.heap.size + 1 + 1 + 1 + 1 := by rw [← eV]; simp
  have bV : Below w.heap.size w V := by rw [← eV]; exact (by repeat (first | exact Below.refl _ _ | assumption | refine below_alloc ?_ _ | refine Below.setCell ?_ (by first | omega | (simp; done) | (simp; omega)) _ | refine Below.alloc ?_ (by first | omega | (simp; done) | (simp; omega)) _ | refine Below.drew ?_))
  have bL : Blk V w.heap.size 31 2 (fun i => if i = 0 then .int .i64 S else .slice (some ⟨g, 0, none⟩) n n) := by
    rw [← eV]
    exact (((Blk.new w #[.int .i64 S, .slice (some ⟨g, 0, none⟩) n n] 31 _ (fun i hi => by simp at hi; match i, hi with | 0, _ => rfl | 1, _ => rfl)).alloc _).alloc _).alloc _
  have bE : Box3 V (w.heap.size + 1 + 1) 33 (.int .i64 op) (.int .i64 f) (.int .i64 d) := by
    rw [← eV]
    have := (Box3.lay ((w.alloc (.cells #[.int .i64 S, .slice (some ⟨g, 0, none⟩) n n] 31)).alloc (.cells #[.bool ok, .slice a1 ns c1, .slice a2 nd c2] 44)) (.int .i64 op) (.int .i64 f) (.int .i64 d) 33).alloc (.cells #[.int .i64 0, .bool false, .slice none 0 0, .slice none 0 0] 46)
    simp only [World.size_alloc] at this
    exact this
  have x3 : Blk V (w.heap.size + 1 + 1 + 1) 46 4 (fun i => #[.int .i64 0, .bool false, .slice none 0 0, .slice none 0 0][i]!) := by
    rw [← eV]
    have := Blk.new (((w.alloc (.cells #[.int .i64 S, .slice (some ⟨g, 0, none⟩) n n] 31)).alloc (.cells #[.bool ok, .slice a1 ns c1, .slice a2 nd c2] 44)).alloc (.cells #[.int .i64 op, .int .i64 f, .int .i64 d] 33)) #[.int .i64 0, .bool false, .slice none 0 0, .slice none 0 0] 46 (fun i => #[.int .i64 0, .bool false, .slice none 0 0, .slice none 0 0][i]!) (fun i hi => by simp at hi; match i, hi with | 0, _ => rfl | 1, _ => rfl | 2, _ => rfl | 3, _ => rfl)
    simp only [World.size_alloc] at this
    exact this
  have ks := fun W (hW : Below V.heap.size V W) => specStateOk_any S g n lo hi F T _ ok ns nd X D W (hrow.on (below_on bV hW)) (hs.on (below_on bV hW))
  have ke := fun W (hW : Below V.heap.size V W) => specEventOk_any S op f d g n F T W (hrow.on (below_on bV hW))
  have fin : ∀ W, Below V.heap.size V W → ∀ (s5 : World), s5 = ((((W.setCell ⟨w.heap.size + 1 + 1 + 1, 0, none⟩ (.int .i64 1)).setCell ⟨w.heap.size + 1 + 1 + 1, 1, none⟩ (.bool false)).setCell ⟨w.heap.size + 1 + 1 + 1, 2, none⟩ (.slice none 0 0)).setCell ⟨w.heap.size + 1 + 1 + 1, 3, none⟩ (.slice none 0 0)) → (s5.cell? ⟨w.heap.size + 1 + 1 + 1, 0, none⟩ = some (.int .i64 1) ∧ s5.cell? ⟨w.heap.size + 1 + 1 + 1, 1, none⟩ = some (.bool false) ∧ s5.cell? ⟨w.heap.size + 1 + 1 + 1, 2, none⟩ = some (.slice none 0 0) ∧ s5.cell? ⟨w.heap.size + 1 + 1 + 1, 3, none⟩ = some (.slice none 0 0)) ∧ Below w.heap.size w s5 := fun W hW s5 hs5 => by
    subst hs5
    obtain ⟨q1, q2, _⟩ := done_set (x3.on hW) (.int .i64 1) (.bool false) (.slice none 0 0) (.slice none 0 0)
    exact ⟨⟨q1.cell (i := 0) (by omega), q1.cell (i := 1) (by omega), q1.cell (i := 2) (by omega), q1.cell (i := 3) (by omega)⟩, (below_on bV hW).trans (q2.below (by omega) (by have := hW.size; omega))⟩
  have EV : Hid _ := eV
  have HF : Hid _ := fin
  clear eV hs hX0 hD0 fin
  cases hst : stOk S n F T ok ns nd X D
  · rw [hst] at ks
    go_enter Try.func16, Try.ntmps16
    go_wp2_with fail
    rw [EV.out]
    refine (ks _ (Below.refl _ _)).mono ?_
    rintro e w1 ⟨rfl, B1⟩
    have y3 := x3.on B1
    have g0 := y3.cell (i := 0) (by omega)
    have g1 := y3.cell (i := 1) (by omega)
    have g2 := y3.cell (i := 2) (by omega)
    have g3 := y3.cell (i := 3) (by omega)
    have h0 := y3.frozen 0
    have h1 := y3.frozen 1
    have h2 := y3.frozen 2
    have h3 := y3.frozen 3
    obtain ⟨⟨t0, t1, t2, t3⟩, B9⟩ := HF.out w1 B1 _ rfl
    have HB : Hid _ := B9
    clear B9 y3
    go_wp2
    exact bodyPost_ret (v := .agg #[.int .i64 1, .bool false, .slice none 0 0, .slice none 0 0]) (by simp only [results, Try.results16]; simp [go_sem, t0, t1, t2, t3]) rfl ⟨_, rfl, ⟨none, 0, none, 0, rfl, ⟨_, _, rfl, ⟨none, 0, rfl, .inl rfl⟩, ⟨none, 0, rfl, .inl rfl⟩⟩⟩, HB.out⟩
  · rw [hst] at ks
    have hev : evOk S n F T op f d = false := by
      rcases hbad with h | h
      · rw [hst] at h; cases h
      · exact h
    rw [hev] at ke
    clear hbad
    go_enter Try.func16, Try.ntmps16
    go_wp2_with fail
    rw [EV.out]
    refine (ks _ (Below.refl _ _)).mono ?_
    rintro e w0 ⟨rfl, B0⟩
    have l0 := (bL.on B0).cell (i := 0) (by omega)
    have l1 := (bL.on B0).cell (i := 1) (by omega)
    simp only [Nat.one_ne_zero, if_false, if_true] at l0 l1
    obtain ⟨e0, e1, e2⟩ := (bE.on B0).cells
    go_wp2_with fail
    refine (ke _ B0).mono ?_
    rintro e w1 ⟨rfl, hb1⟩
    have B1 := below_on B0 hb1
    have y3 := x3.on B1
    have g0 := y3.cell (i := 0) (by omega)
    have g1 := y3.cell (i := 1) (by omega)
    have g2 := y3.cell (i := 2) (by omega)
    have g3 := y3.cell (i := 3) (by omega)
    have h0 := y3.frozen 0
    have h1 := y3.frozen 1
    have h2 := y3.frozen 2
    have h3 := y3.frozen 3
    obtain ⟨⟨t0, t1, t2, t3⟩, B9⟩ := HF.out w1 B1 _ rfl
    have HB : Hid _ := B9
    clear B9 y3 hb1
    go_wp2
    exact bodyPost_ret (v := .agg #[.int .i64 1, .bool false, .slice none 0 0, .slice none 0 0]) (by simp only [results, Try.results16]; simp [go_sem, t0, t1, t2, t3]) rfl ⟨_, rfl, ⟨none, 0, none, 0, rfl, ⟨_, _, rfl, ⟨none, 0, rfl, .inl rfl⟩, ⟨none, 0, rfl, .inl rfl⟩⟩⟩, HB.out⟩

set_option maxRecDepth 100000 in
set_option maxHeartbeats 2000000 in
theorem implDo_bad (S op f d : Int) (g n lo hi : Nat) (F T : Nat → Int) (v : Value) (ok : Bool) (ns nd : Nat) (X : Nat → Sec) (D : Nat → Bool) (w : World) (hrow : Row w g 88 2 n (two F T)) (hs : StF w lo hi v ok ns nd X D) (hbad : stOk S n F T ok ns nd X D = false ∨ evOk S n F T op f d = false) :
    Calls Try.prog 18 #[.agg #[.int .i64 S, .slice (some ⟨g, 0, none⟩) n n], v, .agg #[.int .i64 op, .int .i64 f, .int .i64 d]] w fun e w' => ∃ u, e = .returned u ∧ DoR w w' u 1 false 0 0 X D ∧ Below w.heap.size w w' := by
  obtain ⟨_, _, rfl, ⟨a1, c1, rfl, hX0⟩, ⟨a2, c2, rfl, hD0⟩⟩ := id hs
  obtain ⟨V, eV⟩ : ∃ V, (((w.alloc (.cells #[.int .i64 S, .slice (some ⟨g, 0, none⟩) n n] 31)).alloc (.cells #[.bool ok, .slice a1 ns c1, .slice a2 nd c2] 44)).alloc (.cells #[.int .i64 op, .int .i64 f, .int .i64 d] 33)).alloc (.cells #[.int .i64 0, .bool false, .slice none 0 0, .slice none 0 0] 46) = V := ⟨_, rfl⟩
  have sV : V.heap.size = w.heap.size + 1 + 1 + 1 + 1 := by rw [← eV]; simp
  have bV : Below w.heap.size w V := by rw [← eV]; exact (by repeat (first | exact Below.refl _ _ | assumption | refine below_alloc ?_ _ | refine Below.setCell ?_ (by first | omega | (simp; done) | (simp; omega)) _ | refine Below.alloc ?_ (by first | omega | (simp; done) | (simp; omega)) _ | refine Below.drew ?_))
  have bL : Blk V w.heap.size 31 2 (fun i => if i = 0 then .int .i64 S else .slice (some ⟨g, 0, none⟩) n n) := by
    rw [← eV]
    exact (((Blk.new w #[.int .i64 S, .slice (some ⟨g, 0, none⟩) n n] 31 _ (fun i hi => by simp at hi; match i, hi with | 0, _ => rfl | 1, _ => rfl)).alloc _).alloc _).alloc _
  have bE : Box3 V (w.heap.size + 1 + 1) 33 (.int .i64 op) (.int .i64 f) (.int .i64 d) := by
    rw [← eV]
    have := (Box3.lay ((w.alloc (.cells #[.int .i64 S, .slice (some ⟨g, 0, none⟩) n n] 31)).alloc (.cells #[.bool ok, .slice a1 ns c1, .slice a2 nd c2] 44)) (.int .i64 op) (.int .i64 f) (.int .i64 d) 33).alloc (.cells #[.int .i64 0, .bool false, .slice none 0 0, .slice none 0 0] 46)
    simp only [World.size_alloc] at this
    exact this
  have x3 : Blk V (w.heap.size + 1 + 1 + 1) 46 4 (fun i => #[.int .i64 0, .bool false, .slice none 0 0, .slice none 0 0][i]!) := by
    rw [← eV]
    have := Blk.new (((w.alloc (.cells #[.int .i64 S, .slice (some ⟨g, 0, none⟩) n n] 31)).alloc (.cells #[.bool ok, .slice a1 ns c1, .slice a2 nd c2] 44)).alloc (.cells #[.int .i64 op, .int .i64 f, .int .i64 d] 33)) #[.int .i64 0, .bool false, .slice none 0 0, .slice none 0 0] 46 (fun i => #[.int .i64 0, .bool false, .slice none 0 0, .slice none 0 0][i]!) (fun i hi => by simp at hi; match i, hi with | 0, _ => rfl | 1, _ => rfl | 2, _ => rfl | 3, _ => rfl)
    simp only [World.size_alloc] at this
    exact this
  have ks := fun W (hW : Below V.heap.size V W) => implStateOk_any S g n lo hi F T _ ok ns nd X D W (hrow.on (below_on bV hW)) (hs.on (below_on bV hW))
  have ke := fun W (hW : Below V.heap.size V W) => implEventOk_any S op f d g n F T W (hrow.on (below_on bV hW))
  have fin : ∀ W, Below V.heap.size V W → ∀ (s5 : World), s5 = ((((W.setCell ⟨w.heap.size + 1 + 1 + 1, 0, none⟩ (.int .i64 1)).setCell ⟨w.heap.size + 1 + 1 + 1, 1, none⟩ (.bool false)).setCell ⟨w.heap.size + 1 + 1 + 1, 2, none⟩ (.slice none 0 0)).setCell ⟨w.heap.size + 1 + 1 + 1, 3, none⟩ (.slice none 0 0)) → (s5.cell? ⟨w.heap.size + 1 + 1 + 1, 0, none⟩ = some (.int .i64 1) ∧ s5.cell? ⟨w.heap.size + 1 + 1 + 1, 1, none⟩ = some (.bool false) ∧ s5.cell? ⟨w.heap.size + 1 + 1 + 1, 2, none⟩ = some (.slice none 0 0) ∧ s5.cell? ⟨w.heap.size + 1 + 1 + 1, 3, none⟩ = some (.slice none 0 0)) ∧ Below w.heap.size w s5 := fun W hW s5 hs5 => by
    subst hs5
    obtain ⟨q1, q2, _⟩ := done_set (x3.on hW) (.int .i64 1) (.bool false) (.slice none 0 0) (.slice none 0 0)
    exact ⟨⟨q1.cell (i := 0) (by omega), q1.cell (i := 1) (by omega), q1.cell (i := 2) (by omega), q1.cell (i := 3) (by omega)⟩, (below_on bV hW).trans (q2.below (by omega) (by have := hW.size; omega))⟩
  have EV : Hid _ := eV
  have HF : Hid _ := fin
  clear eV hs hX0 hD0 fin
  cases hst : stOk S n F T ok ns nd X D
  · rw [hst] at ks
    go_enter Try.func18, Try.ntmps18
    go_wp2_with fail
    rw [EV.out]
    refine (ks _ (Below.refl _ _)).mono ?_
    rintro e w1 ⟨rfl, B1⟩
    have y3 := x3.on B1
    have g0 := y3.cell (i := 0) (by omega)
    have g1 := y3.cell (i := 1) (by omega)
    have g2 := y3.cell (i := 2) (by omega)
    have g3 := y3.cell (i := 3) (by omega)
    have h0 := y3.frozen 0
    have h1 := y3.frozen 1
    have h2 := y3.frozen 2
    have h3 := y3.frozen 3
    obtain ⟨⟨t0, t1, t2, t3⟩, B9⟩ := HF.out w1 B1 _ rfl
    have HB : Hid _ := B9
    clear B9 y3
    go_wp2
    exact bodyPost_ret (v := .agg #[.int .i64 1, .bool false, .slice none 0 0, .slice none 0 0]) (by simp only [results, Try.results18]; simp [go_sem, t0, t1, t2, t3]) rfl ⟨_, rfl, ⟨none, 0, none, 0, rfl, ⟨_, _, rfl, ⟨none, 0, rfl, .inl rfl⟩, ⟨none, 0, rfl, .inl rfl⟩⟩⟩, HB.out⟩
  · rw [hst] at ks
    have hev : evOk S n F T op f d = false := by
      rcases hbad with h | h
      · rw [hst] at h; cases h
      · exact h
    rw [hev] at ke
    clear hbad
    go_enter Try.func18, Try.ntmps18
    go_wp2_with fail
    rw [EV.out]
    refine (ks _ (Below.refl _ _)).mono ?_
    rintro e w0 ⟨rfl, B0⟩
    have l0 := (bL.on B0).cell (i := 0) (by omega)
    have l1 := (bL.on B0).cell (i := 1) (by omega)
    simp only [Nat.one_ne_zero, if_false, if_true] at l0 l1
    obtain ⟨e0, e1, e2⟩ := (bE.on B0).cells
    go_wp2_with fail
    refine (ke _ B0).mono ?_
    rintro e w1 ⟨rfl, hb1⟩
    have B1 := below_on B0 hb1
    have y3 := x3.on B1
    have g0 := y3.cell (i := 0) (by omega)
    have g1 := y3.cell (i := 1) (by omega)
    have g2 := y3.cell (i := 2) (by omega)
    have g3 := y3.cell (i := 3) (by omega)
    have h0 := y3.frozen 0
    have h1 := y3.frozen 1
    have h2 := y3.frozen 2
    have h3 := y3.frozen 3
    obtain ⟨⟨t0, t1, t2, t3⟩, B9⟩ := HF.out w1 B1 _ rfl
    have HB : Hid _ := B9
    clear B9 y3 hb1
    go_wp2
    exact bodyPost_ret (v := .agg #[.int .i64 1, .bool false, .slice none 0 0, .slice none 0 0]) (by simp only [results, Try.results18]; simp [go_sem, t0, t1, t2, t3]) rfl ⟨_, rfl, ⟨none, 0, none, 0, rfl, ⟨_, _, rfl, ⟨none, 0, rfl, .inl rfl⟩, ⟨none, 0, rfl, .inl rfl⟩⟩⟩, HB.out⟩

theorem specDo_ok (S op f d : Int) (g n lo hi : Nat) (F T : Nat → Int) (v : Value) (ns : Nat) (X : Nat → Sec) (D : Nat → Bool) (w : World) (hrow : Row w g 88 2 n (two F T)) (hs : StF w lo hi v true ns n X D) (hst : stOk S n F T true ns n X D = true) (hev : evOk S n F T op f d = true) :
    Calls Try.prog 16 #[.agg #[.int .i64 S, .slice (some ⟨g, 0, none⟩) n n], v, .agg #[.int .i64 op, .int .i64 f, .int .i64 d]] w fun e w' => ∃ u, e = .returned u ∧ DoR w w' u (bhC S n F T X D op f d) true ns n (nxtX S n F T X D op f d) (bhD S n D op f d) ∧ Below w.heap.size w w' := by
  have hop : op = 1 ∨ op = 2 ∨ op = 3 ∨ op = 4 ∨ op = 5 := by
    unfold evOk evB at hev
    simp only [Bool.and_eq_true] at hev
    by_cases h1 : op = 1 ∨ op = 2
    · omega
    · by_cases h2 : op = 3 ∨ op = 4
      · omega
      · by_cases h3 : op = 5
        · omega
        · rw [if_neg h1, if_neg h2, if_neg h3] at hev
          cases hev.2
  rcases hop with h | h | h | h | h
  · exact specDo_a S op f d g n lo hi F T v ns X D w hrow hs hst hev (.inl h)
  · exact specDo_a S op f d g n lo hi F T v ns X D w hrow hs hst hev (.inr h)
  · exact specDo_b S op f d g n lo hi F T v ns X D w hrow hs hst hev h
  · exact specDo_c S op f d g n lo hi F T v ns X D w hrow hs hst hev h
  · exact specDo_d S op f d g n lo hi F T v ns X D w hrow hs hst hev h

/-- What Do promises of a layout, a state and an event. -/
def DoC (fn : Nat) (S : Int) (n : Nat) (F T : Nat → Int) (ok : Bool) (ns nd : Nat) (X : Nat → Sec) (D : Nat → Bool) (op f d C : Int) (ok' : Bool) (ns' nd' : Nat) (X' : Nat → Sec) (D' : Nat → Bool) : Prop := ∀ (g lo hi : Nat) (v : Value) (W : World), Row W g 88 2 n (two F T) → StF W lo hi v ok ns nd X D →
  Calls Try.prog fn #[.agg #[.int .i64 S, .slice (some ⟨g, 0, none⟩) n n], v, .agg #[.int .i64 op, .int .i64 f, .int .i64 d]] W fun e w' => ∃ u, e = .returned u ∧ DoR W w' u C ok' ns' nd' X' D' ∧ Below W.heap.size W w'

theorem dos (S : Int) (n : Nat) (F T : Nat → Int) (ok : Bool) (ns nd : Nat) (X : Nat → Sec) (D : Nat → Bool) (op f d : Int) : ∃ C ok' ns' nd' X' D', ns' ≤ 60 ∧ nd' ≤ 120 ∧ DoC 16 S n F T ok ns nd X D op f d C ok' ns' nd' X' D' ∧ DoC 18 S n F T ok ns nd X D op f d C ok' ns' nd' X' D' := by
  cases hst : stOk S n F T ok ns nd X D
  · exact ⟨1, false, 0, 0, X, D, by omega, by omega, fun g lo hi v W hr hs => specDo_bad S op f d g n lo hi F T v ok ns nd X D W hr hs (.inl hst), fun g lo hi v W hr hs => implDo_bad S op f d g n lo hi F T v ok ns nd X D W hr hs (.inl hst)⟩
  · cases hev : evOk S n F T op f d
    · exact ⟨1, false, 0, 0, X, D, by omega, by omega, fun g lo hi v W hr hs => specDo_bad S op f d g n lo hi F T v ok ns nd X D W hr hs (.inr hev), fun g lo hi v W hr hs => implDo_bad S op f d g n lo hi F T v ok ns nd X D W hr hs (.inr hev)⟩
    · obtain ⟨hl, rfl, hS, rfl, _⟩ := stOk_parts hst
      obtain ⟨r1, r2, r3⟩ := lok_range hl
      exact ⟨_, true, ns, nd, _, _, by omega, r3, fun g lo hi v W hr hs => specDo_ok S op f d g nd lo hi F T v ns X D W hr hs hst hev, fun g lo hi v W hr hs => implDo_ok S op f d g nd lo hi F T v ns X D W hr hs hst hev⟩

end Go.Proofs.Ytlpopfhaephfaab
