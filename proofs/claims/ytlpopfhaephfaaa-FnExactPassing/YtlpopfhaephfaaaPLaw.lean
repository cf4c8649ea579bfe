import Derived.Test.YtlpopfhaephfaaaPas
import Derived.Test.YtlpopfhaephfaaaW4
import Derived.Deep.DeepCutAuto
namespace Go.Proofs.Ytlpopfhaephfaaa
open Go.RowKit Go.Sort

theorem Row.tri {w : World} {g e n : Nat} {P : Nat → Nat → Int} (h : Row w g e 3 n (ints P)) : TriF w e 0 w.heap.size (.slice (some ⟨g, 0, none⟩) n n) n P :=
  ⟨_, n, rfl,   .inr ⟨g, n * 3, _, rfl, Nat.zero_le _, h.lt, Nat.le_refl _, h, fun i _ j hj => by rw [idx_div hj, idx_mod hj]; rfl⟩⟩
theorem Blk.intF {w : World} {g n : Nat} {Z : Nat → Int} (h : Blk w g 3 n (fun i => .int .i64 (Z i))) : IntF w 0 (.slice (some ⟨g, 0, none⟩) n n) n Z :=
  ⟨_, n, rfl, .inr ⟨g, n, _, rfl, Nat.zero_le _, Nat.le_refl _, h, fun _ _ => rfl⟩⟩

theorem blk_ne {w : World} {g g' e e' m m' : Nat} {f f' : Nat → Value} (h : Blk w g e m f) (h' : Blk w g' e' m' f') (he : e ≠ e') : some g ≠ some g' := by
  intro x
  simp only [Option.some.injEq] at x
  subst x
  obtain ⟨_, a1, _⟩ := h
  obtain ⟨_, a2, _⟩ := h'
  rw [a1] at a2
  simp only [Option.some.injEq, Obj.cells.injEq] at a2
  exact he a2.2.1

set_option maxHeartbeats 1000000 in
theorem markIntS_from (g n : Nat) (q0 : Int) (f : Nat → Value) (w : World) (hn : n ≤ 1048576) (hq0 : 0 ≤ q0) (hq1 : q0 ≤ 1000000000) (h1 : Blk w g 3 n f) :
    Calls Try.prog 32 #[.slice (some ⟨g, 0, none⟩) n n, .int .i64 q0] w fun e w' => e = .returned (.int .i64 (q0 + (n : Int))) ∧ w.grownBy w' (some g) := by
  go_enter Try.func32, Try.ntmps32
  go_wp2
  go_loopw [1, 5] (fun q i wr => ∃ (k : Nat) (f' : Nat → Value), k ≤ n ∧ i = .int .i64 k ∧ q = .int .i64 (q0 + (k : Int)) ∧ Blk wr g 3 n f' ∧ w.grownBy wr (some g)) (fun _ i _ => n - (intOf i).toNat)
  case atStart => exact ⟨0, f, Nat.zero_le _, rfl, by simp, h1, World.grownBy.refl _ _⟩
  case round =>
    obtain ⟨k, f', hk, rfl, rfl, hB, hG⟩ := hrel
    by_cases hlt : k < n
    · have c0 := hB.cell hlt
      have z0 := hB.frozen k
      clear h1
      go_wp2
      go_roundw
      case rel => exact ⟨k + 1, _, by omega, by go_num, by go_num, hB.set k _, grown_set hG _⟩
      case measure => simp [intOf]; omega
    · go_wp2
      go_ret
      have : k = n := by omega
      subst this
      exact ⟨rfl, hG⟩

/-- marks in the events' own block alone; then they are held -/
theorem markEventS_any (lo hi n : Nat) (v : Value) (P : Nat → Nat → Int) (w : World) (hn : n ≤ 1048576) (h : TriF w 45 lo hi v n P) :
    Calls Try.prog 41 #[v, .int .i64 1] w fun e w' => e = .returned (.int .i64 (1 + 3 * (n : Int))) ∧ TriF w' 45 lo hi v n (fun i j => 1 + ((i * 3 + j : Nat) : Int)) ∧ RowKit.Below lo w w' := by
  obtain ⟨ao, cap, rfl, h0⟩ := h
  rcases Nat.eq_zero_or_pos n with rfl | hp
  · refine (markEventS_none ao cap 1 w).mono fun e w' ⟨he, hw⟩ => ?_
    subst hw
    exact ⟨he, ⟨ao, cap, rfl, .inl rfl⟩, RowKit.Below.refl _ _⟩
  · rcases h0 with h0 | ⟨g, m, f, rfl, h1, h1', h2, h3, h4⟩
    · omega
    · refine (markEventS_some g m cap n 1 f w hn (by omega) (by omega) h3 h2).mono fun e w' ⟨he, hB, hG⟩ => ?_
      exact ⟨he, ⟨_, cap, rfl, .inr ⟨g, m, _, rfl, h1, h1', h2, hB, fun i hi j hj => by unfold mark3; rw [if_pos (by omega)]⟩⟩, (RowKit.Below.refl _ _).grown hG (by have := h3.lt; omega) (fun k hk => by simp only [Option.some.injEq] at hk; omega)⟩

theorem heldEventS_any (lo hi n : Nat) (v : Value) (w : World) (hn : n ≤ 1048576) (h : TriF w 45 lo hi v n (fun i j => 1 + ((i * 3 + j : Nat) : Int))) :
    Calls Try.prog 42 #[v, .int .i64 1] w fun e w' => e = .returned (.int .i64 (1 + 3 * (n : Int))) ∧ RowKit.Below w.heap.size w w' := by
  obtain ⟨ao, cap, rfl, h0⟩ := h
  rcases Nat.eq_zero_or_pos n with rfl | hp
  · exact heldEventS_none _ _ _
  · rcases h0 with h0 | ⟨g, m, f, rfl, h1, h1', h2, h3, h4⟩
    · omega
    · refine heldEventS_some g m cap n f w hn h3 h2 (fun c hc => ?_)
      have := h4 (c / 3) (by omega) (c % 3) (by omega)
      rw [show c / 3 * 3 + c % 3 = c by omega] at this
      rw [this]
      show Value.int .i64 (1 + ((c / 3 * 3 + c % 3 : Nat) : Int)) = _
      rw [show c / 3 * 3 + c % 3 = c by omega]

theorem pas_bigA (S fr tt : Int) (ao ap aa : Option Addr) (n cap nP capP nA capA : Nat) (w : World) (hn : ¬ (nA : Int) ≤ 1048576) :
    Calls Try.prog 9 #[.agg #[.int .i64 S, .slice ao n cap], .slice ap nP capP, .slice aa nA capA, .int .i64 fr, .int .i64 tt] w fun e w' => e = .returned (.bool true) ∧ RowKit.Below w.heap.size w w' := by
  go_enter Try.func9, Try.ntmps9
  go_wp2
  go_ret
  exact ⟨rfl, (by repeat (first | exact Below.refl _ _ | assumption | refine below_alloc ?_ _ | refine Below.setCell ?_ (by first | omega | (simp; done) | (simp; omega)) _ | refine Below.alloc ?_ (by first | omega | (simp; done) | (simp; omega)) _ | refine Below.drew ?_))⟩

theorem pas_bigL (S fr tt : Int) (ao ap aa : Option Addr) (n cap nP capP nA capA : Nat) (w : World) (hl : n ≤ maxLen) (ha : (nA : Int) ≤ 1048576) (hn : ¬ (n : Int) ≤ 1048576) :
    Calls Try.prog 9 #[.agg #[.int .i64 S, .slice ao n cap], .slice ap nP capP, .slice aa nA capA, .int .i64 fr, .int .i64 tt] w fun e w' => e = .returned (.bool true) ∧ RowKit.Below w.heap.size w w' := by
  go_enter Try.func9, Try.ntmps9
  go_wp2_with fail
  refine (szLayout_any _ _ _ _ _ hl).mono ?_
  rw [if_neg (Int.not_le.2 hn)]
  rintro e w1 ⟨rfl, hb1⟩
  go_wp2
  go_ret
  exact ⟨rfl, below_on (by repeat (first | exact Below.refl _ _ | assumption | refine below_alloc ?_ _ | refine Below.setCell ?_ (by first | omega | (simp; done) | (simp; omega)) _ | refine Below.alloc ?_ (by first | omega | (simp; done) | (simp; omega)) _ | refine Below.drew ?_)) hb1⟩

theorem pas_bigP (S fr tt : Int) (ao ap aa : Option Addr) (n cap nP capP nA capA : Nat) (w : World) (hl : nP ≤ maxLen) (ha : (nA : Int) ≤ 1048576) (hn : (n : Int) ≤ 1048576) (hp : ¬ (nP : Int) ≤ 1048576 - n) :
    Calls Try.prog 9 #[.agg #[.int .i64 S, .slice ao n cap], .slice ap nP capP, .slice aa nA capA, .int .i64 fr, .int .i64 tt] w fun e w' => e = .returned (.bool true) ∧ RowKit.Below w.heap.size w w' := by
  go_enter Try.func9, Try.ntmps9
  go_wp2_with fail
  refine (szLayout_any _ _ _ _ _ (by unfold maxLen; omega)).mono ?_
  rw [if_pos hn]
  rintro e w1 ⟨rfl, hb1⟩
  have B1 := below_on (show RowKit.Below w.heap.size w _ from (by repeat (first | exact Below.refl _ _ | assumption | refine below_alloc ?_ _ | refine Below.setCell ?_ (by first | omega | (simp; done) | (simp; omega)) _ | refine Below.alloc ?_ (by first | omega | (simp; done) | (simp; omega)) _ | refine Below.drew ?_))) hb1
  clear hb1
  have h9 : (0 : Int) ≤ 1048576 - (n : Int) := by omega
  go_wp2_with fail
  refine (szPostS_any _ _ _ (1048576 - (n : Int)) _ hl (by omega) (by omega)).mono ?_
  rw [if_neg (Int.not_le.2 hp)]
  rintro e w2 ⟨rfl, rfl⟩
  go_wp2
  go_ret
  exact ⟨rfl, B1⟩

set_option maxHeartbeats 8000000 in
set_option maxRecDepth 100000 in
theorem pas_small (S fr tt : Int) (ao ap aa : Option Addr) (n cap nP capP nA capA : Nat) (F T : Nat → Int) (P : Nat → Nat → Int) (Z : Nat → Int) (w : World) (ha : (nA : Int) ≤ 1048576) (hn : (n : Int) ≤ 1048576) (hp : (nP : Int) ≤ 1048576 - n) (c1 : Came w ao n F T) (c2 : Came3 w ap nP P) (c3 : CameI w aa nA Z) :
    Calls Try.prog 9 #[.agg #[.int .i64 S, .slice ao n cap], .slice ap nP capP, .slice aa nA capA, .int .i64 fr, .int .i64 tt] w fun e w' => e = .returned (.bool true) ∧ RowKit.Below w.heap.size w w' := by
  have hn' : n ≤ 1048576 := by omega
  have hp' : nP ≤ 1048576 := by omega
  have ha' : nA ≤ 1048576 := by omega
  have hA : ∀ W, RowKit.Below (w.alloc (.cells #[.int .i64 S, .slice ao n cap] 59)).heap.size (w.alloc (.cells #[.int .i64 S, .slice ao n cap] 59)) W → Came W ao n F T ∧ W.cell? ⟨w.heap.size, 0, none⟩ = some (.int .i64 S) ∧ W.cell? ⟨w.heap.size, 1, none⟩ = some (.slice ao n cap) ∧ w.heap.size < W.heap.size := fun W hb =>
    ⟨c1.below (below_on (below_alloc (RowKit.Below.refl _ _) _) hb), (hb.cell (p := ⟨w.heap.size, 0, none⟩) (by first | omega | (simp; done) | (simp; omega))).trans (by simp), (hb.cell (p := ⟨w.heap.size, 1, none⟩) (by first | omega | (simp; done) | (simp; omega))).trans (by simp), by have := hb.size; simp at this; omega⟩
  have hE : ∀ W, RowKit.Below (w.alloc (.cells #[.int .i64 S, .slice ao n cap] 59)).heap.size (w.alloc (.cells #[.int .i64 S, .slice ao n cap] 59)) W → RowKit.Below w.heap.size w W := fun W hb => below_on (below_alloc (RowKit.Below.refl _ _) _) hb
  have tL := fun W (hb : RowKit.Below (w.alloc (.cells #[.int .i64 S, .slice ao n cap] 59)).heap.size (w.alloc (.cells #[.int .i64 S, .slice ao n cap] 59)) W) => toLayout_any S ao n cap F T W hn' (c1.below (hE W hb))
  have tP := fun W (hb : RowKit.Below (w.alloc (.cells #[.int .i64 S, .slice ao n cap] 59)).heap.size (w.alloc (.cells #[.int .i64 S, .slice ao n cap] 59)) W) => toPostS_any ap nP capP P W hp' (c2.below (hE W hb))
  have tI := fun W (hb : RowKit.Below (w.alloc (.cells #[.int .i64 S, .slice ao n cap] 59)).heap.size (w.alloc (.cells #[.int .i64 S, .slice ao n cap] 59)) W) => toIntS_any aa nA capA Z W ha' (c3.below (hE W hb))
  clear c1 c2 c3
  go_enter Try.func9, Try.ntmps9
  go_wp2_with fail
  refine (szLayout_any _ _ _ _ _ (by unfold maxLen; omega)).mono ?_
  rw [if_pos hn]
  rintro e w1 ⟨rfl, B1⟩
  have h9 : (0 : Int) ≤ 1048576 - (n : Int) := by omega
  go_wp2_with fail
  refine (szPostS_any _ _ _ (1048576 - (n : Int)) _ (by unfold maxLen; omega) (by omega) (by omega)).mono ?_
  rw [if_pos hp]
  rintro e w1' ⟨rfl, hw1⟩
  rw [hw1]
  clear hw1 w1'
  obtain ⟨_, a0, a1, s1⟩ := hA _ B1
  have h10 : (0 : Int) ≤ 1048576 - (n : Int) - (nP : Int) := by omega
  go_wp2_with fail
  refine (tL _ B1).mono ?_
  rintro e w2 ⟨g2, rfl, hg2, r2, hb2⟩
  have B2 := below_on B1 hb2
  clear a0 a1 s1 hb2 B1
  go_wp2_with fail
  refine (tP _ B2).mono ?_
  rintro e w3 ⟨rfl, q3, hb3⟩
  have B3 := below_on B2 hb3
  have r3 := r2.on hb3
  clear hb3 B2 r2
  go_wp2_with fail
  refine (tI _ B3).mono ?_
  rintro e w4 ⟨rfl, i4, hb4⟩
  have B4 := below_on B3 hb4
  have r4 := r3.on hb4
  have q4 := q3.on hb4
  clear hb4 B3 r3 q3
  go_wp2_with fail
  refine (specPassing_any S _ n _ nP _ nA F T P Z fr tt _ r4 q4 i4 hp' ha').mono ?_
  rintro e w5 ⟨v5, E, rfl, hE5, t5, hb5⟩
  have B5 := below_on B4 hb5
  clear hb5 B4 r4 q4 i4
  obtain ⟨_, a0, a1, s5⟩ := hA _ B5
  go_wp2_with fail
  refine (tL _ B5).mono ?_
  rintro e w6 ⟨g6, rfl, hg6, r6, hb6⟩
  have B6 := below_on B5 hb6
  have t6 := t5.on hb6
  have z56 := hb6.size
  clear a0 a1 hb6 B5 t5
  go_wp2_with fail
  have B6' := below_alloc B6 (.cells #[.int .i64 S, .slice (some ⟨g6, 0, none⟩) n n] 25)
  refine (tP _ B6').mono ?_
  rintro e w7 ⟨rfl, q7, hb7⟩
  have B7 := below_on B6' hb7
  have r7 := (r6.alloc _).on hb7
  have t7 := (t6.alloc _).on hb7
  have x0 : w7.cell? ⟨w6.heap.size, 0, none⟩ = some (.int .i64 S) := (hb7.cell (p := ⟨w6.heap.size, 0, none⟩) (by first | omega | (simp; done) | (simp; omega))).trans (by simp)
  have x1 : w7.cell? ⟨w6.heap.size, 1, none⟩ = some (.slice (some ⟨g6, 0, none⟩) n n) := (hb7.cell (p := ⟨w6.heap.size, 1, none⟩) (by first | omega | (simp; done) | (simp; omega))).trans (by simp)
  have z7 : w6.heap.size < w7.heap.size := World.block_lt_of_cell? w7 ⟨w6.heap.size, 0, none⟩ x0
  clear hb7 B6' B6 r6 t6
  simp only [World.size_alloc] at q7 ⊢
  go_wp2_with fail
  refine (tI _ B7).mono ?_
  rintro e w8 ⟨rfl, i8, hb8⟩
  have B8 := below_on B7 hb8
  have r8 := r7.on hb8
  have q8 := q7.on hb8
  have t8 := t7.on hb8
  have x0 := (hb8.cell (p := ⟨w6.heap.size, 0, none⟩) z7).trans x0
  have x1 := (hb8.cell (p := ⟨w6.heap.size, 1, none⟩) z7).trans x1
  have z8 : w6.heap.size < w8.heap.size := by have := hb8.size; omega
  have z78 := hb8.size
  clear hb8 B7 r7 q7 t7
  go_wp2_with fail
  refine (implPassing_any S _ n _ nP _ nA F T P Z fr tt _ r8 q8 i8 hp' ha').mono ?_
  rintro e w9 ⟨v9, E', rfl, hE9, hl9, t9, hb9⟩
  obtain rfl := hE9.unique hE5
  have B9 := below_on B8 hb9
  have r9 := r8.on hb9
  have q9 := q8.on hb9
  have i9 := i8.below hb9 i8.lt
  have u9 := t8.on hb9
  have x0 := (hb9.cell (p := ⟨w6.heap.size, 0, none⟩) z8).trans x0
  have x1 := (hb9.cell (p := ⟨w6.heap.size, 1, none⟩) z8).trans x1
  have z9 : w6.heap.size < w9.heap.size := by have := hb9.size; omega
  have z89 := hb9.size
  have szw : w.heap.size + 1 ≤ w8.heap.size := by have := B8.size; simpa using this
  clear hb9 B8 r8 q8 i8 t8
  have hlE : E'.length ≤ 1048576 := by omega
  go_wp2_with fail
  refine (eqEventS_same _ _ _ _ _ _ _ _ _ _ hlE t9 u9 (fun _ _ _ _ => rfl)).mono ?_
  rintro e w10 ⟨rfl, hb10⟩
  have B10 := below_on B9 hb10
  have r10 := r9.on hb10
  have q10 := q9.on hb10
  have i10 := i9.below hb10 i9.lt
  have u10 := u9.on hb10
  have t10 := t9.on hb10
  have x0 := (hb10.cell (p := ⟨w6.heap.size, 0, none⟩) z9).trans x0
  have x1 := (hb10.cell (p := ⟨w6.heap.size, 1, none⟩) z9).trans x1
  have z10 : w6.heap.size < w10.heap.size := by have := hb10.size; omega
  clear hb10 B9 r9 q9 i9 u9 t9
  obtain ⟨_, a0, a1, s10⟩ := hA _ B10
  go_upto_region 17 with fail
  go_cut [63] from 21 (fun q wc => q = .bool false ∧ RowKit.Below (w.alloc (.cells #[.int .i64 S, .slice ao n cap] 59)).heap.size (w.alloc (.cells #[.int .i64 S, .slice ao n cap] 59)) wc ∧ TriF wc 45 w8.heap.size w9.heap.size v9 E'.length (evF P E') ∧ TriF wc 45 w4.heap.size w5.heap.size v5 E'.length (evF P E') ∧ Row wc g6 51 2 n (two F T) ∧ Row wc (w6.heap.size + 1) 103 3 nP (ints P) ∧ Blk wc w7.heap.size 3 nA (fun i => .int .i64 (Z i)) ∧ wc.cell? ⟨w6.heap.size, 0, none⟩ = some (.int .i64 S) ∧ wc.cell? ⟨w6.heap.size, 1, none⟩ = some (.slice (some ⟨g6, 0, none⟩) n n))
  case first =>
    have tLd := tL _ B10.drew
    have l10 := r10.lt
    go_region_with (first
      | (go_at_call 25; refine tLd.mono ?_; rintro e w11 ⟨g11, rfl, hg11, r11, hb11⟩; have y0 := (hb11.cell (p := ⟨w6.heap.size, 0, none⟩) z10).trans x0; have y1 := (hb11.cell (p := ⟨w6.heap.size, 1, none⟩) z10).trans x1; have r10' := r10.drew.below hb11 l10; have B11 := below_on B10.drew hb11)
      | (go_at_call 27; refine (eqLayout_same _ _ _ _ F T _ r10' r11 hn').mono ?_; rintro e w12 ⟨rfl, hb12⟩))
    all_goals
      have z11 : w6.heap.size < w11.heap.size := World.block_lt_of_cell? w11 ⟨w6.heap.size, 0, none⟩ y0
      have hbb : RowKit.Below w10.heap.size w10 w12 := (RowKit.Below.refl w10.heap.size w10).drew.trans (hb11.trans (hb12.mono hb11.size))
      have R1 := u10.on hbb
      have R2 := t10.on hbb
      have R3 := r10.on hbb
      have R4 := q10.on hbb
      have R5 := i10.below hbb i10.lt
      go_wp2_with fail
      go_meet
      case rel => exact ⟨rfl, below_on B11 hb12, R2, R1, R3, R4, R5, (hb12.cell (p := ⟨w6.heap.size, 0, none⟩) z11).trans y0, (hb12.cell (p := ⟨w6.heap.size, 1, none⟩) z11).trans y1⟩
  case rest =>
    clear B10 r10 q10 i10 u10 t10 x0 x1 a0 a1 s10 z10
    obtain ⟨rfl, B12, t12, u12, r12, q12, i12, x0, x1⟩ := hcut
    go_wp2_with fail
    refine (tP _ B12).mono ?_
    rintro e w13 ⟨rfl, q13', hb13⟩
    have hz12 : w6.heap.size < wc.heap.size := World.block_lt_of_cell? wc ⟨w6.heap.size, 0, none⟩ x0
    have B13 := below_on B12 hb13
    have t13 := t12.on hb13
    have u13 := u12.on hb13
    have r13 := r12.on hb13
    have q13 := q12.on hb13
    have i13 := i12.below hb13 i12.lt
    have x0 := (hb13.cell (p := ⟨w6.heap.size, 0, none⟩) hz12).trans x0
    have x1 := (hb13.cell (p := ⟨w6.heap.size, 1, none⟩) hz12).trans x1
    clear hb13 B12 t12 u12 r12 q12 i12
    go_wp2_with fail
    refine (eqPostS_same _ _ _ _ _ _ _ _ _ _ hp' q13.tri q13'.tri (fun _ _ _ _ => rfl)).mono ?_
    rintro e w14 ⟨rfl, hb14⟩
    have hz13 : w6.heap.size < w13.heap.size := World.block_lt_of_cell? w13 ⟨w6.heap.size, 0, none⟩ x0
    have B14 := below_on B13 hb14
    have t14 := t13.on hb14
    have u14 := u13.on hb14
    have r14 := r13.on hb14
    have q14 := q13.on hb14
    have i14 := i13.below hb14 i13.lt
    have x0 := (hb14.cell (p := ⟨w6.heap.size, 0, none⟩) hz13).trans x0
    have x1 := (hb14.cell (p := ⟨w6.heap.size, 1, none⟩) hz13).trans x1
    clear hb14 B13 t13 u13 r13 q13 i13 q13'
    go_wp2_with fail
    refine (tI _ B14).mono ?_
    rintro e w15 ⟨rfl, i15', hb15⟩
    have hz14 : w6.heap.size < w14.heap.size := World.block_lt_of_cell? w14 ⟨w6.heap.size, 0, none⟩ x0
    have B15 := below_on B14 hb15
    have t15 := t14.on hb15
    have u15 := u14.on hb15
    have r15 := r14.on hb15
    have q15 := q14.on hb15
    have i15 := i14.below hb15 i14.lt
    have x0 := (hb15.cell (p := ⟨w6.heap.size, 0, none⟩) hz14).trans x0
    have x1 := (hb15.cell (p := ⟨w6.heap.size, 1, none⟩) hz14).trans x1
    clear hb15 B14 t14 u14 r14 q14 i14
    go_wp2_with fail
    refine (eqIntS_same _ _ _ _ _ _ _ _ ha' i15.intF i15'.intF (fun _ _ => rfl)).mono ?_
    rintro e w16 ⟨rfl, hb16⟩
    have hz15 : w6.heap.size < w15.heap.size := World.block_lt_of_cell? w15 ⟨w6.heap.size, 0, none⟩ x0
    have B16 := below_on B15 hb16
    have t16 := t15.on hb16
    have u16 := u15.on hb16
    have r16 := r15.on hb16
    have q16 := q15.on hb16
    have i16 := i15.below hb16 i15.lt
    have x0 := (hb16.cell (p := ⟨w6.heap.size, 0, none⟩) hz15).trans x0
    have x1 := (hb16.cell (p := ⟨w6.heap.size, 1, none⟩) hz15).trans x1
    clear hb16 B15 t15 u15 r15 q15 i15 i15'
    go_wp2_with fail
    refine (markLayout_any _ _ _ _ _ hn' r16).mono ?_
    rintro e w17 ⟨rfl, hg17⟩
    have t17 := t16.marked r16 (by decide) hg17
    have u17 := u16.marked r16 (by decide) hg17
    have q17 : Row w17 (w6.heap.size + 1) 103 3 nP (ints P) := Blk.grown q16 hg17 (blk_ne r16 q16 (by decide))
    have i17 := i16.grown hg17 (blk_ne r16 i16 (by decide))
    have B17 := B16.grown hg17 B16.size (fun k hk => by simp only [Option.some.injEq] at hk; simp; omega)
    clear hg17 B16 t16 u16 r16 q16 i16 x0 x1
    go_wp2_with fail
    refine (markPostS_some _ _ _ _ _ _ _ hp' (by omega) (by omega) q17 (Nat.le_refl _)).mono ?_
    rintro e w18 ⟨rfl, _, hg18⟩
    have t18 := t17.marked q17 (by decide) hg18
    have u18 := u17.marked q17 (by decide) hg18
    have i18 := i17.grown hg18 (blk_ne q17 i17 (by decide))
    have B18 := B17.grown hg18 B17.size (fun k hk => by simp only [Option.some.injEq] at hk; simp; omega)
    clear hg18 B17 t17 u17 q17 i17
    go_wp2_with fail
    refine (markIntS_from _ _ _ _ _ ha' (by omega) (by omega) i18).mono ?_
    rintro e w19 ⟨rfl, hg19⟩
    have t19 := t18.marked i18 (by decide) hg19
    have u19 := u18.marked i18 (by decide) hg19
    have B19 := B18.grown hg19 B18.size (fun k hk => by simp only [Option.some.injEq] at hk; simp; omega)
    clear hg19 B18 t18 u18 i18
    have h11 : (0 : Int) ≤ 1 + 2 * (n : Int) + 3 * (nP : Int) + (nA : Int) := by omega
    go_wp2_with fail
    refine (eqEventS_same _ _ _ _ _ _ _ _ _ _ hlE t19 u19 (fun _ _ _ _ => rfl)).mono ?_
    rintro e w20 ⟨rfl, hb20⟩
    have t20 := t19.on hb20
    have u20 := u19.on hb20
    have B20 := below_on B19 hb20
    clear hb20 B19 t19 u19
    go_wp2_with fail
    refine (markEventS_any _ _ _ _ _ _ hlE t20).mono ?_
    rintro e w21 ⟨rfl, t21, hb21⟩
    have u21 := u20.below hb21 (by omega)
    have B21 := B20.trans (hb21.mono (by simp; omega))
    clear hb21 B20 t20 u20
    go_wp2_with fail
    refine (heldEventS_any _ _ _ _ _ hlE t21).mono ?_
    rintro e w22 ⟨rfl, hb22⟩
    have t22 := t21.on hb22
    have u22 := u21.on hb22
    have B22 := below_on B21 hb22
    clear hb22 B21 t21 u21
    obtain ⟨_, a0, a1, s22⟩ := hA _ B22
    have h12 : (0 : Int) ≤ 1 + 3 * (E'.length : Int) := by omega
    go_wp2_with fail
    refine (tL _ B22).mono ?_
    rintro e w23 ⟨g23, rfl, hg23, r23, hb23⟩
    have t23 := t22.on hb23
    have u23 := u22.on hb23
    have B23 := below_on B22 hb23
    clear hb23 B22 t22 u22 a0 a1 s22
    go_wp2_with fail
    refine (tP _ B23).mono ?_
    rintro e w24 ⟨rfl, q24, hb24⟩
    have t24 := t23.on hb24
    have u24 := u23.on hb24
    have r24 := r23.on hb24
    have B24 := below_on B23 hb24
    clear hb24 B23 t23 u23 r23
    go_wp2_with fail
    refine (tI _ B24).mono ?_
    rintro e w25 ⟨rfl, i25, hb25⟩
    have t25 := t24.on hb25
    have u25 := u24.on hb25
    have r25 := r24.on hb25
    have q25 := q24.on hb25
    have B25 := below_on B24 hb25
    clear hb25 B24 t24 u24 r24 q24
    go_wp2_with fail
    refine (implPassing_any S _ n _ nP _ nA F T P Z fr tt _ r25 q25 i25 hp' ha').mono ?_
    rintro e w26 ⟨v26, E2, rfl, hE26, hl26, s26, hb26⟩
    have t26 := t25.on hb26
    have u26 := u25.on hb26
    have B26 := below_on B25 hb26
    obtain rfl := hE9.unique hE26
    clear hb26 B25 t25 u25 r25 q25 i25
    go_wp2_with fail
    refine (eqEventS_same _ _ _ _ _ _ _ _ _ _ hlE s26 u26 (fun _ _ _ _ => rfl)).mono ?_
    rintro e w27 ⟨rfl, hb27⟩
    have t27 := t26.on hb27
    have B27 := below_on B26 hb27
    clear hb27 B26 t26 u26 s26
    go_wp2_with fail
    refine (heldEventS_any _ _ _ _ _ hlE t27).mono ?_
    rintro e w28 ⟨rfl, hb28⟩
    have B28 := hE _ (below_on B27 hb28)
    clear hb28 B27 t27
    go_wp2
    go_ret
    exact ⟨rfl, B28⟩

end Go.Proofs.Ytlpopfhaephfaaa
