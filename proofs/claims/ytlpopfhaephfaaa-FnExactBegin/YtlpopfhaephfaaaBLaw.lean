import Derived.Test.YtlpopfhaephfaaaW4
import Derived.Test.YtlpopfhaephfaaaMkL
import Derived.Test.YtlpopfhaephfaaaST4
import Derived.ProofKit
import Derived.Deep.DeepCutAuto
namespace Go.Proofs.Ytlpopfhaephfaaa
open Go.RowKit

/-- What a Begin promises of a layout. -/
def BegC (f : Nat) (S : Int) (n : Nat) (F T : Nat → Int) (ok : Bool) (ns nd : Nat) : Prop := ∀ (g : Nat) (W : World), Row W g 51 2 n (two F T) →
  Calls Try.prog f #[.agg #[.int .i64 S, .slice (some ⟨g, 0, none⟩) n n]] W fun e w' => ∃ a1 c1 a2 c2, e = .returned (.agg #[.bool ok, .slice a1 ns c1, .slice a2 nd c2]) ∧ StF w' W.heap.size w'.heap.size (.agg #[.bool ok, .slice a1 ns c1, .slice a2 nd c2]) ok ns nd (fun _ => sec0) (fun _ => false) ∧ Below W.heap.size W w'

theorem begins (S : Int) (n : Nat) (F T : Nat → Int) : ∃ ok ns nd, ns ≤ 60 ∧ nd ≤ 120 ∧ BegC 43 S n F T ok ns nd ∧ BegC 44 S n F T ok ns nd := by
  by_cases h : lokZ S n F T = 0
  · obtain ⟨a1, a2, a3⟩ := lok_range h
    refine ⟨true, S.toNat, n, by omega, a3, fun g W hr => (specBegin_ok S g n F T W hr h).mono ?_, fun g W hr => (implBegin_ok S g n F T W hr h).mono ?_⟩
    · rintro e w' ⟨v, rfl, hB, hb⟩
      have hB' := hB
      obtain ⟨_, _, rfl, ⟨a1, c1, rfl, _⟩, ⟨a2, c2, rfl, _⟩⟩ := hB'
      exact ⟨a1, c1, a2, c2, rfl, hB, hb⟩
    · rintro e w' ⟨v, rfl, hB, hb⟩
      have hB' := hB
      obtain ⟨_, _, rfl, ⟨a1, c1, rfl, _⟩, ⟨a2, c2, rfl, _⟩⟩ := hB'
      exact ⟨a1, c1, a2, c2, rfl, hB, hb⟩
  · have h' : (lokZ S n F T == 0) = false := by simpa using h
    refine ⟨false, 0, 0, by omega, by omega, fun g W hr => (specBegin_bad S g n F T W hr h').mono ?_, fun g W hr => (implBegin_bad S g n F T W hr h').mono ?_⟩
    · rintro e w' ⟨v, rfl, hB, hb⟩
      have hB' := hB
      obtain ⟨_, _, rfl, ⟨a1, c1, rfl, _⟩, ⟨a2, c2, rfl, _⟩⟩ := hB'
      exact ⟨a1, c1, a2, c2, rfl, hB, hb⟩
    · rintro e w' ⟨v, rfl, hB, hb⟩
      have hB' := hB
      obtain ⟨_, _, rfl, ⟨a1, c1, rfl, _⟩, ⟨a2, c2, rfl, _⟩⟩ := hB'
      exact ⟨a1, c1, a2, c2, rfl, hB, hb⟩

theorem beg_great (S : Int) (ao : Option Addr) (n cap : Nat) (w : World) (hl : n ≤ maxLen) (hn : ¬ (n : Int) ≤ 1048576) :
    Calls Try.prog 10 #[.agg #[.int .i64 S, .slice ao n cap]] w fun e w' => e = .returned (.bool true) ∧ Below w.heap.size w w' := by
  go_enter Try.func10, Try.ntmps10
  go_wp2_with (first | (go_at_call 23; refine (szLayout_any _ _ _ _ _ hl).mono ?_; rw [if_neg hn]; rintro e w1 ⟨rfl, hb1⟩))
  go_ret
  exact ⟨rfl, (show Below w.heap.size w _ from (by repeat (first | exact Below.refl _ _ | assumption | refine below_alloc ?_ _ | refine Below.setCell ?_ (by first | omega | (simp; done) | (simp; omega)) _ | refine Below.alloc ?_ (by first | omega | (simp; done) | (simp; omega)) _ | refine Below.drew ?_))).trans (hb1.mono (by first | omega | (simp; done) | (simp; omega)))⟩

set_option maxHeartbeats 2000000 in
theorem beg_small (S : Int) (ao : Option Addr) (n cap : Nat) (F T : Nat → Int) (w : World) (hn : (n : Int) ≤ 1048576) (h : Came w ao n F T) :
    Calls Try.prog 10 #[.agg #[.int .i64 S, .slice ao n cap]] w fun e w' => e = .returned (.bool true) ∧ Below w.heap.size w w' := by
  have hn' : n ≤ 1048576 := by omega
  have hl : n ≤ maxLen := by unfold maxLen; omega
  have hA : ∀ W, Below (w.alloc (.cells #[.int .i64 S, .slice ao n cap] 59)).heap.size (w.alloc (.cells #[.int .i64 S, .slice ao n cap] 59)) W → Came W ao n F T ∧ W.cell? ⟨w.heap.size, 0, none⟩ = some (.int .i64 S) ∧ W.cell? ⟨w.heap.size, 1, none⟩ = some (.slice ao n cap) ∧ w.heap.size < W.heap.size := fun W hb =>
    ⟨h.below (below_on (below_alloc (Below.refl _ _) _) hb), (hb.cell (p := ⟨w.heap.size, 0, none⟩) (by first | omega | (simp; done) | (simp; omega))).trans (by simp), (hb.cell (p := ⟨w.heap.size, 1, none⟩) (by first | omega | (simp; done) | (simp; omega))).trans (by simp), by have := hb.size; simp at this; omega⟩
  have hE : ∀ W, Below (w.alloc (.cells #[.int .i64 S, .slice ao n cap] 59)).heap.size (w.alloc (.cells #[.int .i64 S, .slice ao n cap] 59)) W → Below w.heap.size w W := fun W hb => below_on (below_alloc (Below.refl _ _) _) hb
  clear h
  obtain ⟨ok, ns, nd, hs0, hd0, cS, cI⟩ := begins S n F T
  have hs : ns ≤ 1048576 := by omega
  have hd : nd ≤ 1048576 := by omega
  go_enter Try.func10, Try.ntmps10
  go_wp2_with fail
  refine (szLayout_any _ _ _ _ _ hl).mono ?_
  rw [if_pos hn]
  rintro e w1 ⟨rfl, B1⟩
  obtain ⟨m1, a0, a1, s1⟩ := hA _ B1
  go_wp2_with fail
  refine (toLayout_any _ _ _ _ F T _ hn' m1).mono ?_
  rintro e w2 ⟨g2, rfl, hg2, r2, hb2⟩
  have B2 := below_on B1 hb2
  clear hb2 B1 m1 a0 a1 s1
  go_wp2_with fail
  refine (cS _ _ r2).mono ?_
  rintro e w3 ⟨a31, c31, a32, c32, rfl, t3, hb3⟩
  have B3 := below_alloc (below_on B2 hb3) (.cells #[.bool ok, (.slice a31 ns c31), (.slice a32 nd c32)] 37)
  have y3 := Box3.lay w3 (.bool ok) (.slice a31 ns c31) (.slice a32 nd c32) 37
  have t3' := t3.alloc (.cells #[.bool ok, (.slice a31 ns c31), (.slice a32 nd c32)] 37)
  clear hb3 r2 B2 t3
  obtain ⟨m3, a0, a1, s3⟩ := hA _ B3
  go_wp2_with fail
  refine (toLayout_any _ _ _ _ F T _ hn' m3).mono ?_
  rintro e w4 ⟨g4, rfl, hg4, r4, hb4⟩
  have B4 := below_on B3 hb4
  have y4 := y3.on hb4
  have t4 := t3'.on hb4
  have l4 := r4.lt
  have z34 := hb4.size
  rw [World.size_alloc] at z34
  clear hb4 B3 m3 a0 a1 t3' y3
  go_wp2_with fail
  refine (cI _ _ (r4.alloc _)).mono ?_
  rintro e w5 ⟨a51, c51, a52, c52, rfl, f5, hb5⟩
  have f5' := f5.alloc (.cells #[.bool ok, (.slice a51 ns c51), (.slice a52 nd c52)] 37)
  have z5 := Box3.lay w5 (.bool ok) (.slice a51 ns c51) (.slice a52 nd c52) 37
  have t5 := ((t4.alloc _).on hb5).alloc (.cells #[.bool ok, (.slice a51 ns c51), (.slice a52 nd c52)] 37)
  have y5 := ((y4.alloc _).on hb5).alloc (.cells #[.bool ok, (.slice a51 ns c51), (.slice a52 nd c52)] 37)
  have q5 : w4.heap.size < w5.heap.size := by have := hb5.size; simp at this; omega
  have x0 : (w5.alloc (.cells #[.bool ok, (.slice a51 ns c51), (.slice a52 nd c52)] 37)).cell? ⟨w4.heap.size, 0, none⟩ = some (.int .i64 S) := by rw [World.cell?_alloc_past (hn := q5)]; exact (hb5.cell (p := ⟨w4.heap.size, 0, none⟩) (by first | omega | (simp; done) | (simp; omega))).trans (by simp)
  have x1 : (w5.alloc (.cells #[.bool ok, (.slice a51 ns c51), (.slice a52 nd c52)] 37)).cell? ⟨w4.heap.size, 1, none⟩ = some (.slice (some ⟨g4, 0, none⟩) n n) := by rw [World.cell?_alloc_past (hn := q5)]; exact (hb5.cell (p := ⟨w4.heap.size, 1, none⟩) (by first | omega | (simp; done) | (simp; omega))).trans (by simp)
  have r5 := ((r4.alloc _).on hb5).alloc (.cells #[.bool ok, (.slice a51 ns c51), (.slice a52 nd c52)] 37)
  have B5 := below_alloc (below_on (below_alloc B4 _) hb5) (.cells #[.bool ok, (.slice a51 ns c51), (.slice a52 nd c52)] 37)
  rw [World.size_alloc] at f5'
  clear hb5 B4 r4 f5 t4 y4
  obtain ⟨c0, c1, c2⟩ := y5.cells
  obtain ⟨d0, d1, d2⟩ := z5.cells
  go_wp2_with fail
  refine (eqState_same _ _ _ _ _ _ _ _ _ _ _ _ _ _ hs hd f5' t5 (fun _ _ => rfl) (fun _ _ => rfl)).mono ?_
  rintro e w6 ⟨rfl, hb6⟩
  have f6 := f5'.on hb6
  have t6 := t5.on hb6
  have y6 := y5.on hb6
  have z6 := z5.on hb6
  have r6 := r5.on hb6
  have x0 := (hb6.cell (p := ⟨w4.heap.size, 0, none⟩) (by first | omega | (simp; done) | (simp; omega))).trans x0
  have x1 := (hb6.cell (p := ⟨w4.heap.size, 1, none⟩) (by first | omega | (simp; done) | (simp; omega))).trans x1
  have B6 := below_on B5 hb6
  have q6 : w4.heap.size + 1 < w6.heap.size := by have := hb6.size; simp at this; omega
  clear hb6 B5 f5' t5 r5 q5 y5 z5 c0 c1 c2 d0 d1 d2
  obtain ⟨m6, a0, a1, s6⟩ := hA _ B6
  go_upto_region 10 with fail
  go_cut [31] from 11 (fun q wc => q = .bool false ∧ Below (w.alloc (.cells #[.int .i64 S, .slice ao n cap] 59)).heap.size (w.alloc (.cells #[.int .i64 S, .slice ao n cap] 59)) wc ∧ StF wc (w4.heap.size + 1) w5.heap.size (.agg #[.bool ok, .slice a51 ns c51, .slice a52 nd c52]) ok ns nd (fun _ => sec0) (fun _ => false) ∧ StF wc w2.heap.size w3.heap.size (.agg #[.bool ok, .slice a31 ns c31, .slice a32 nd c32]) ok ns nd (fun _ => sec0) (fun _ => false) ∧ Box3 wc w3.heap.size 37 (.bool ok) (.slice a31 ns c31) (.slice a32 nd c32) ∧ Box3 wc w5.heap.size 37 (.bool ok) (.slice a51 ns c51) (.slice a52 nd c52) ∧ Row wc g4 51 2 n (two F T) ∧ wc.cell? ⟨w4.heap.size, 0, none⟩ = some (.int .i64 S) ∧ wc.cell? ⟨w4.heap.size, 1, none⟩ = some (.slice (some ⟨g4, 0, none⟩) n n) ∧ w4.heap.size + 1 < wc.heap.size)
  case first =>
    have md : Came w6.drew ao n F T := m6
    have Bd : Below (w.alloc (.cells #[.int .i64 S, .slice ao n cap] 59)).heap.size (w.alloc (.cells #[.int .i64 S, .slice ao n cap] 59)) w6.drew := B6.drew
    have l6 := r6.lt
    have q6' : w4.heap.size < w6.heap.size := by omega
    go_region_with (first
      | (go_at_call 25; refine (toLayout_any _ _ _ _ F T _ hn' md).mono ?_; rintro e w7 ⟨g7, rfl, hg7, r7, hb7⟩; have p0 := (hb7.cell (p := ⟨w4.heap.size, 0, none⟩) q6').trans x0; have p1 := (hb7.cell (p := ⟨w4.heap.size, 1, none⟩) q6').trans x1; have r67 := r6.drew.below hb7 l6; have B7 := below_on Bd hb7; have f7 := f6.drew.on hb7; have t7 := t6.drew.on hb7; have y7 := y6.drew.on hb7; have z7 := z6.drew.on hb7)
      | (go_at_call 27; refine (eqLayout_same _ _ _ _ F T _ r67 r7 hn').mono ?_; rintro e w8 ⟨rfl, hb8⟩))
    all_goals
      have q7 : w4.heap.size < w7.heap.size := World.block_lt_of_cell? w7 ⟨w4.heap.size, 0, none⟩ p0
      have q8 : w4.heap.size + 1 < w8.heap.size := by have := hb8.size; have := hb7.size; simp at this; omega
      go_wp2_with fail
      go_meet
      case rel => exact ⟨rfl, below_on B7 hb8, f7.on hb8, t7.on hb8, y7.on hb8, z7.on hb8, r67.on hb8, (hb8.cell (p := ⟨w4.heap.size, 0, none⟩) q7).trans p0, (hb8.cell (p := ⟨w4.heap.size, 1, none⟩) q7).trans p1, q8⟩
  case rest =>
    clear B6 f6 t6 y6 z6 r6 x0 x1 m6 a0 a1 q6 s6
    obtain ⟨rfl, B8, f8, t8, y8, z8, r8, x0, x1, q8⟩ := hcut
    go_wp2_with fail
    refine (markLayout_any _ _ _ _ _ hn' r8).mono ?_
    rintro e w9 ⟨rfl, hg9⟩
    have T9 : Turned _ w9 (· = 51) 0 (g4 + 1) := Turned.of_grown hg9 (Nat.zero_le _) (by omega) rfl r8
    have f9 := f8.turned T9 (.inl ⟨by decide, by decide⟩)
    have t9 := t8.turned T9 (.inl ⟨by decide, by decide⟩)
    have y9 := y8.turned T9 (.inl (by decide))
    have z9 := z8.turned T9 (.inl (by decide))
    have B9 := B8.grown hg9 B8.size (fun k hk => by simp only [Option.some.injEq] at hk; simp; omega)
    have q9 := Nat.lt_of_lt_of_le q8 hg9.size
    clear f8 t8 r8 y8 z8 x0 x1 q8 B8 hg9 T9
    obtain ⟨c0, c1, c2⟩ := y9.cells
    obtain ⟨d0, d1, d2⟩ := z9.cells
    go_wp2_with fail
    refine (eqState_same _ _ _ _ _ _ _ _ _ _ _ _ _ _ hs hd f9 t9 (fun _ _ => rfl) (fun _ _ => rfl)).mono ?_
    rintro e w10 ⟨rfl, hb10⟩
    have f10 := f9.on hb10
    have t10 := t9.on hb10
    have y10 := y9.on hb10
    have z10 := z9.on hb10
    have B10 := below_on B9 hb10
    have q10 := Nat.lt_of_lt_of_le q9 hb10.size
    clear f9 t9 y9 z9 B9 q9 hb10 c0 c1 c2 d0 d1 d2
    obtain ⟨d0, d1, d2⟩ := z10.cells
    go_wp2_with fail
    refine (markState_any _ _ _ _ _ _ _ _ _ _ hs hd (by omega) (by omega) f10).mono ?_
    rintro e w11 ⟨rfl, f11, T11⟩
    have t11 := t10.turned T11 (.inr (.inr (by omega)))
    have y11 := y10.turned T11 (.inl (by unfold isSt; decide))
    have z11 := z10.turned T11 (.inl (by unfold isSt; decide))
    have B11 := B10.trans (T11.below (B := (w.alloc (.cells #[.int .i64 S, .slice ao n cap] 59)).heap.size) (by simp; omega) B10.size)
    clear f10 t10 y10 z10 B10 q10 T11 d0 d1 d2
    obtain ⟨d0, d1, d2⟩ := z11.cells
    have h1 : (0 : Int) ≤ 1 + 5 * (ns : Int) + (nd : Int) := by omega
    go_wp2_with fail
    refine (heldState_any _ _ _ _ _ _ _ _ hs hd (by omega) (by omega) f11).mono ?_
    rintro e w12 ⟨rfl, hb12⟩
    have f12 : MkF w12 _ _ _ _ _ _ _ := f11.on hb12
    have t12 := t11.on hb12
    have y12 := y11.on hb12
    have z12 := z11.on hb12
    have B12 := below_on B11 hb12
    clear f11 t11 B11 hb12 y11 z11 d0 d1 d2
    obtain ⟨m12, a0, a1, s12⟩ := hA _ B12
    go_wp2_with fail
    refine (toLayout_any _ _ _ _ F T _ hn' m12).mono ?_
    rintro e w13 ⟨g13, rfl, hg13, r13, hb13⟩
    have f13 : MkF w13 _ _ _ _ _ _ _ := f12.on hb13
    have t13 := t12.on hb13
    have y13 := y12.on hb13
    have z13 := z12.on hb13
    have B13 := below_on B12 hb13
    clear f12 t12 B12 hb13 m12 a0 a1 s12 y12 z12
    go_wp2_with fail
    refine (cI _ _ r13).mono ?_
    rintro e w14 ⟨a141, c141, a142, c142, rfl, o14, hb14⟩
    have f14 : MkF _ _ _ _ _ _ _ _ := (f13.on hb14).alloc (.cells #[.bool ok, .slice a141 ns c141, .slice a142 nd c142] 37)
    have t14 := (t13.on hb14).alloc (.cells #[.bool ok, .slice a141 ns c141, .slice a142 nd c142] 37)
    have y14 := (y13.on hb14).alloc (.cells #[.bool ok, .slice a141 ns c141, .slice a142 nd c142] 37)
    have z14 := (z13.on hb14).alloc (.cells #[.bool ok, .slice a141 ns c141, .slice a142 nd c142] 37)
    have u14 := Box3.lay w14 (.bool ok) (.slice a141 ns c141) (.slice a142 nd c142) 37
    have h14 := o14.alloc (.cells #[.bool ok, .slice a141 ns c141, .slice a142 nd c142] 37)
    have B14 := below_alloc (below_on B13 hb14) (.cells #[.bool ok, .slice a141 ns c141, .slice a142 nd c142] 37)
    clear f13 t13 B13 hb14 r13 o14 y13 z13
    obtain ⟨c0, c1, c2⟩ := y14.cells
    obtain ⟨d0, d1, d2⟩ := u14.cells
    go_wp2_with fail
    refine (eqState_same _ _ _ _ _ _ _ _ _ _ _ _ _ _ hs hd h14 t14 (fun _ _ => rfl) (fun _ _ => rfl)).mono ?_
    rintro e w15 ⟨rfl, hb15⟩
    have f15 : MkF w15 _ _ _ _ _ _ _ := f14.on hb15
    have z15 := z14.on hb15
    have B15 := below_on B14 hb15
    clear f14 t14 B14 hb15 h14 y14 z14 u14 c0 c1 c2 d0 d1 d2
    obtain ⟨d0, d1, d2⟩ := z15.cells
    go_wp2_with fail
    refine (heldState_any _ _ _ _ _ _ _ _ hs hd (by omega) (by omega) f15).mono ?_
    rintro e w16 ⟨rfl, hb16⟩
    have B16 := hE _ (below_on B15 hb16)
    clear f15 B15 hb16
    go_wp2
    go_ret
    exact ⟨rfl, B16⟩

end Go.Proofs.Ytlpopfhaephfaaa
