import Derived.Test.YtlpopfhaephfaaaW4
import Derived.Test.YtlpopfhaephfaaaW7
import Derived.Test.YtlpopfhaephfaaaW8
import Derived.Deep.DeepCutAuto
namespace Go.Proofs.Ytlpopfhaephfaaa
open Go.RowKit Go.Maps

/-- A slice of n ints in a block below 'top', or an empty one. -/
def IntT (w : World) (top : Nat) (v : Value) (n : Nat) (Z : Nat → Int) : Prop :=
  ∃ ao cap, v = .slice ao n cap ∧ (n = 0 ∨ ∃ g m f, ao = some ⟨g, 0, none⟩ ∧ g < top ∧ n ≤ m ∧ Blk w g 3 m f ∧ ∀ i, i < n → f i = .int .i64 (Z i))

theorem IntF.top {w : World} {base n : Nat} {v : Value} {Z : Nat → Int} (h : IntF w base v n Z) : IntT w w.heap.size v n Z := by
  obtain ⟨ao, cap, rfl, h0 | ⟨g, m, f, rfl, h1, h2, h3, h4⟩⟩ := h
  · exact ⟨ao, cap, rfl, .inl h0⟩
  · exact ⟨_, cap, rfl, .inr ⟨g, m, f, rfl, h3.lt, h2, h3, h4⟩⟩
theorem IntT.bot {w : World} {top n : Nat} {v : Value} {Z : Nat → Int} (h : IntT w top v n Z) : IntF w 0 v n Z := by
  obtain ⟨ao, cap, rfl, h0 | ⟨g, m, f, rfl, h1, h2, h3, h4⟩⟩ := h
  · exact ⟨ao, cap, rfl, .inl h0⟩
  · exact ⟨_, cap, rfl, .inr ⟨g, m, f, rfl, Nat.zero_le _, h2, h3, h4⟩⟩
theorem IntT.of_block {w w' : World} {top n : Nat} {v : Value} {Z : Nat → Int} (h : IntT w top v n Z) (hb : ∀ g m f, Blk w g 3 m f → g < top → w'.heap[g]? = w.heap[g]?) : IntT w' top v n Z := by
  obtain ⟨ao, cap, rfl, h0 | ⟨g, m, f, rfl, h1, h2, h3, h4⟩⟩ := h
  · exact ⟨ao, cap, rfl, .inl h0⟩
  · exact ⟨_, cap, rfl, .inr ⟨g, m, f, rfl, h1, h2, h3.of_block (hb g m f h3 h1), h4⟩⟩
theorem IntT.below {w w' : World} {top n B : Nat} {v : Value} {Z : Nat → Int} (h : IntT w top v n Z) (hb : Below B w w') (ht : top ≤ B) : IntT w' top v n Z := h.of_block fun g _ _ _ h2 => hb.block g (by omega)
theorem IntT.on {w w' : World} {top n : Nat} {v : Value} {Z : Nat → Int} (h : IntT w top v n Z) (hb : Below w.heap.size w w') : IntT w' top v n Z := h.of_block fun g _ _ h1 _ => hb.block g h1.lt
theorem IntT.marked {w w' : World} {top n gx m : Nat} {v : Value} {Z : Nat → Int} {f : Nat → Value} {e : Nat} (h : IntT w top v n Z) (hx : Blk w gx e m f) (he : e ≠ 3) (hg : w.grownBy w' (some gx)) : IntT w' top v n Z :=
  h.of_block fun g _ _ h1 _ => hg.block g h1.lt (fun e1 => by
    simp only [Option.some.injEq] at e1; subst e1
    obtain ⟨_, a1, _⟩ := h1; obtain ⟨_, a2, _⟩ := hx
    rw [a1] at a2; simp only [Option.some.injEq, Obj.cells.injEq] at a2
    exact he a2.2.1.symm)

theorem arZ_len (S : Int) (n : Nat) (F T : Nat → Int) (s : Int) : (arZ S n F T s).length ≤ n := by
  unfold arZ; split
  · exact zsAt_len F T n s
  · simp

theorem aro_great (S s : Int) (ao : Option Addr) (n cap : Nat) (w : World) (hl : n ≤ maxLen) (hn : ¬ (n : Int) ≤ 1048576) :
    Calls Try.prog 8 #[.agg #[.int .i64 S, .slice ao n cap], .int .i64 s] w fun e w' => e = .returned (.bool true) ∧ Below w.heap.size w w' := by
  go_enter Try.func8, Try.ntmps8
  go_wp2_with (first | (go_at_call 23; refine (szLayout_any _ _ _ _ _ hl).mono ?_; rw [if_neg hn]; rintro e w1 ⟨rfl, hb1⟩))
  go_ret
  exact ⟨rfl, (show Below w.heap.size w _ from (by repeat (first | exact Below.refl _ _ | assumption | refine below_alloc ?_ _ | refine Below.setCell ?_ (by first | omega | (simp; done) | (simp; omega)) _ | refine Below.alloc ?_ (by first | omega | (simp; done) | (simp; omega)) _ | refine Below.drew ?_))).trans (hb1.mono (by first | omega | (simp; done) | (simp; omega)))⟩

set_option maxHeartbeats 2000000 in
theorem aro_small (S s : Int) (ao : Option Addr) (n cap : Nat) (F T : Nat → Int) (w : World) (hn : (n : Int) ≤ 1048576) (h : Came w ao n F T) :
    Calls Try.prog 8 #[.agg #[.int .i64 S, .slice ao n cap], .int .i64 s] w fun e w' => e = .returned (.bool true) ∧ Below w.heap.size w w' := by
  have hn' : n ≤ 1048576 := by omega
  have hl : n ≤ maxLen := by unfold maxLen; omega
  have hA : ∀ W, Below (w.alloc (.cells #[.int .i64 S, .slice ao n cap] 59)).heap.size (w.alloc (.cells #[.int .i64 S, .slice ao n cap] 59)) W → Came W ao n F T ∧ W.cell? ⟨w.heap.size, 0, none⟩ = some (.int .i64 S) ∧ W.cell? ⟨w.heap.size, 1, none⟩ = some (.slice ao n cap) ∧ w.heap.size < W.heap.size := fun W hb =>
    ⟨h.below (below_on (below_alloc (Below.refl _ _) _) hb), (hb.cell (p := ⟨w.heap.size, 0, none⟩) (by first | omega | (simp; done) | (simp; omega))).trans (by simp), (hb.cell (p := ⟨w.heap.size, 1, none⟩) (by first | omega | (simp; done) | (simp; omega))).trans (by simp), by have := hb.size; simp at this; omega⟩
  have hE : ∀ W, Below (w.alloc (.cells #[.int .i64 S, .slice ao n cap] 59)).heap.size (w.alloc (.cells #[.int .i64 S, .slice ao n cap] 59)) W → Below w.heap.size w W := fun W hb => below_on (below_alloc (Below.refl _ _) _) hb
  have hz := arZ_len S n F T s
  clear h
  obtain ⟨Z, hZ⟩ : ∃ Z, arZ S n F T s = Z := ⟨_, rfl⟩
  have cS : ∀ (g : Nat) (W : World), Row W g 51 2 n (two F T) → Calls Try.prog 28 #[.agg #[.int .i64 S, .slice (some ⟨g, 0, none⟩) n n], .int .i64 s] W fun e w' => ∃ v, e = .returned v ∧ w'.ownsInts W.heap.size 3 .i64 v Z ∧ Below W.heap.size W w' := fun g W hr => by rw [← hZ]; exact specAround_any S s g n F T W hr
  have cI : ∀ (g : Nat) (W : World), Row W g 51 2 n (two F T) → Calls Try.prog 29 #[.agg #[.int .i64 S, .slice (some ⟨g, 0, none⟩) n n], .int .i64 s] W fun e w' => ∃ v, e = .returned v ∧ w'.ownsInts W.heap.size 3 .i64 v Z ∧ Below W.heap.size W w' := fun g W hr => by rw [← hZ]; exact implAround_any S s g n F T W hr
  rw [hZ] at hz
  clear hZ
  have hzn : Z.length ≤ 1048576 := by omega
  go_enter Try.func8, Try.ntmps8
  go_wp2_with fail
  refine (szLayout_any _ _ _ _ _ hl).mono ?_
  rw [if_pos hn]
  rintro e w1 ⟨rfl, B1⟩
  obtain ⟨m1, a0, a1, s1⟩ := hA _ B1
  go_wp2_with fail
  refine (toLayout_any _ _ _ _ F T _ hn' m1).mono ?_
  rintro e w2 ⟨g2, rfl, hg2, r2, hb2⟩
  have B2 := below_on B1 hb2
  clear hb2 B1 m1 a0 a1 s1
  go_wp2_with fail
  refine (cS _ _ r2).mono ?_
  rintro e w3 ⟨v3, rfl, o3, hb3⟩
  have t3 := (IntF.of_owns o3).top
  have B3 := below_on B2 hb3
  clear hb3 r2 B2 o3
  obtain ⟨m3, a0, a1, s3⟩ := hA _ B3
  go_wp2_with fail
  refine (toLayout_any _ _ _ _ F T _ hn' m3).mono ?_
  rintro e w4 ⟨g4, rfl, hg4, r4, hb4⟩
  have B4 := below_on B3 hb4
  have t4 := t3.on hb4
  have l4 := r4.lt
  have z34 := hb4.size
  clear hb4 B3 m3 a0 a1 t3
  go_wp2_with fail
  refine (cI _ _ (r4.alloc _)).mono ?_
  rintro e w5 ⟨v5, rfl, o5, hb5⟩
  have f5 := IntF.of_owns o5
  have t5 := (t4.below (below_alloc (Below.refl w4 (B := w4.heap.size)) _) z34).on hb5
  have x0 : w5.cell? ⟨w4.heap.size, 0, none⟩ = some (.int .i64 S) := (hb5.cell (p := ⟨w4.heap.size, 0, none⟩) (by first | omega | (simp; done) | (simp; omega))).trans (by simp)
  have x1 : w5.cell? ⟨w4.heap.size, 1, none⟩ = some (.slice (some ⟨g4, 0, none⟩) n n) := (hb5.cell (p := ⟨w4.heap.size, 1, none⟩) (by first | omega | (simp; done) | (simp; omega))).trans (by simp)
  have r5 := (r4.alloc _).on hb5
  have B5 := below_on (below_alloc B4 _) hb5
  have z5 : w4.heap.size < w5.heap.size := by have := hb5.size; simp at this; omega
  clear hb5 B4 r4 o5 t4
  go_wp2_with fail
  refine (eqIntS_same _ _ _ _ _ _ _ _ hzn f5 t5.bot (fun _ _ => rfl)).mono ?_
  rintro e w6 ⟨rfl, hb6⟩
  have f6 := f5.on hb6
  have t6 := t5.on hb6
  have r6 := r5.on hb6
  have x0 := (hb6.cell (p := ⟨w4.heap.size, 0, none⟩) z5).trans x0
  have x1 := (hb6.cell (p := ⟨w4.heap.size, 1, none⟩) z5).trans x1
  have B6 := below_on B5 hb6
  have z6 := Nat.lt_of_lt_of_le z5 hb6.size
  clear hb6 B5 f5 t5 r5 z5
  obtain ⟨m6, a0, a1, s6⟩ := hA _ B6
  go_upto_region 10 with fail
  go_cut [35] from 13 (fun q wc => q = .bool false ∧ Below (w.alloc (.cells #[.int .i64 S, .slice ao n cap] 59)).heap.size (w.alloc (.cells #[.int .i64 S, .slice ao n cap] 59)) wc ∧ IntF wc (w4.heap.size + 1) v5 Z.length (fun i => Z.getD i 0) ∧ IntT wc w3.heap.size v3 Z.length (fun i => Z.getD i 0) ∧ Row wc g4 51 2 n (two F T) ∧ wc.cell? ⟨w4.heap.size, 0, none⟩ = some (.int .i64 S) ∧ wc.cell? ⟨w4.heap.size, 1, none⟩ = some (.slice (some ⟨g4, 0, none⟩) n n) ∧ w4.heap.size < wc.heap.size)
  case first =>
    have md : Came w6.drew ao n F T := m6
    have Bd : Below (w.alloc (.cells #[.int .i64 S, .slice ao n cap] 59)).heap.size (w.alloc (.cells #[.int .i64 S, .slice ao n cap] 59)) w6.drew := B6.drew
    have l6 := r6.lt
    go_region_with (first
      | (go_at_call 25; refine (toLayout_any _ _ _ _ F T _ hn' md).mono ?_; rintro e w7 ⟨g7, rfl, hg7, r7, hb7⟩; have y0 := (hb7.cell (p := ⟨w4.heap.size, 0, none⟩) z6).trans x0; have y1 := (hb7.cell (p := ⟨w4.heap.size, 1, none⟩) z6).trans x1; have r67 := r6.drew.below hb7 l6; have B7 := below_on Bd hb7; have f7 := f6.drew.on hb7; have t7 := IntT.on (w := w6.drew) t6 hb7)
      | (go_at_call 27; refine (eqLayout_same _ _ _ _ F T _ r67 r7 hn').mono ?_; rintro e w8 ⟨rfl, hb8⟩))
    all_goals
      have z7 : w4.heap.size < w7.heap.size := World.block_lt_of_cell? w7 ⟨w4.heap.size, 0, none⟩ y0
      go_wp2_with fail
      go_meet
      case rel => exact ⟨rfl, below_on B7 hb8, by simpa using f7.on hb8, t7.on hb8, r67.on hb8, (hb8.cell (p := ⟨w4.heap.size, 0, none⟩) z7).trans y0, (hb8.cell (p := ⟨w4.heap.size, 1, none⟩) z7).trans y1, Nat.lt_of_lt_of_le z7 hb8.size⟩
  case rest =>
    clear B6 f6 t6 r6 x0 x1 m6 a0 a1 z6 s6
    obtain ⟨rfl, B8, f8, t8, r8, x0, x1, z8⟩ := hcut
    go_wp2_with fail
    refine (markLayout_any _ _ _ _ _ hn' r8).mono ?_
    rintro e w9 ⟨rfl, hg9⟩
    have f9 := f8.marked r8 (by decide) hg9
    have t9 := t8.marked r8 (by decide) hg9
    have B9 := B8.grown hg9 B8.size (fun k hk => by simp only [Option.some.injEq] at hk; simp; omega)
    have z9 := Nat.lt_of_lt_of_le z8 hg9.size
    clear f8 t8 r8 x0 x1 z8 B8 hg9
    go_wp2_with fail
    refine (eqIntS_same _ _ _ _ _ _ _ _ hzn f9 t9.bot (fun _ _ => rfl)).mono ?_
    rintro e w10 ⟨rfl, hb10⟩
    have f10 := f9.on hb10
    have t10 := t9.on hb10
    have B10 := below_on B9 hb10
    have z10 := Nat.lt_of_lt_of_le z9 hb10.size
    clear f9 t9 B9 z9 hb10
    go_wp2_with fail
    refine (markIntS_any _ _ _ _ _ hzn z10 f10).mono ?_
    rintro e w11 ⟨rfl, f11, hb11⟩
    have t11 := t10.below hb11 (by omega)
    have B11 := B10.trans (hb11.mono (by simp; omega))
    clear f10 t10 B10 z10 hb11
    go_wp2_with fail
    refine (heldIntS_same _ _ _ _ hzn f11).mono ?_
    rintro e w12 ⟨rfl, hb12⟩
    have f12 := f11.on hb12
    have t12 := t11.on hb12
    have B12 := below_on B11 hb12
    clear f11 t11 B11 hb12
    obtain ⟨m12, a0, a1, s12⟩ := hA _ B12
    go_wp2_with fail
    refine (toLayout_any _ _ _ _ F T _ hn' m12).mono ?_
    rintro e w13 ⟨g13, rfl, hg13, r13, hb13⟩
    have f13 := f12.on hb13
    have t13 := t12.on hb13
    have B13 := below_on B12 hb13
    clear f12 t12 B12 hb13 m12 a0 a1 s12
    go_wp2_with fail
    refine (cI _ _ r13).mono ?_
    rintro e w14 ⟨v14, rfl, o14, hb14⟩
    have f14 := f13.on hb14
    have t14 := t13.on hb14
    have B14 := below_on B13 hb14
    have h14 := IntF.of_owns o14
    clear f13 t13 B13 hb14 r13 o14
    go_wp2_with fail
    refine (eqIntS_same _ _ _ _ _ _ _ _ hzn h14 t14.bot (fun _ _ => rfl)).mono ?_
    rintro e w15 ⟨rfl, hb15⟩
    have f15 := f14.on hb15
    have B15 := below_on B14 hb15
    clear f14 t14 B14 hb15 h14
    go_wp2_with fail
    refine (heldIntS_same _ _ _ _ hzn f15).mono ?_
    rintro e w16 ⟨rfl, hb16⟩
    have B16 := hE _ (below_on B15 hb16)
    clear f15 B15 hb16
    go_wp2
    go_ret
    exact ⟨rfl, B16⟩

end Go.Proofs.Ytlpopfhaephfaaa
