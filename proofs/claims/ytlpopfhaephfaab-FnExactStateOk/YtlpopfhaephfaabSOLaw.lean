import Derived.Test.YtlpopfhaephfaabW4
import Derived.Test.YtlpopfhaephfaabST1
import Derived.Test.YtlpopfhaephfaabSO4
import Derived.ProofKit
import Derived.Deep.DeepCutAuto
namespace Go.Proofs.Ytlpopfhaephfaab
open Go.RowKit

/-- toState, with what it makes read as a state -/
theorem toStateF (ok : Bool) (asx ad : Option Addr) (ns cs nd cd : Nat) (X : Nat → Sec) (D : Nat → Bool) (w : World) (hs : ns ≤ 1048576) (hd : nd ≤ 1048576) (h1 : CameS w asx ns X) (h2 : CameB w ad nd D) :
    Calls Try.prog 17 #[.agg #[.bool ok, .slice asx ns cs, .slice ad nd cd]] w fun e w' => ∃ g1 g2, e = .returned (.agg #[.bool ok, .slice (some ⟨g1, 0, none⟩) ns ns, .slice (some ⟨g2, 0, none⟩) nd nd]) ∧ StF w' w.heap.size w'.heap.size (.agg #[.bool ok, .slice (some ⟨g1, 0, none⟩) ns ns, .slice (some ⟨g2, 0, none⟩) nd nd]) ok ns nd X D ∧ Below w.heap.size w w' :=
  (toState_any ok asx ad ns cs nd cd X D w hs hd h1 h2).mono fun _ _ ⟨g1, g2, he, l1, l2, r1, r2, hb⟩ => ⟨g1, g2, he, ⟨_, _, rfl, SlF.of_row r1 l1 r1.lt, SlF.of_bools r2 l2 r2.lt⟩, hb⟩

theorem so_great (S : Int) (ao : Option Addr) (n cap : Nat) (ok : Bool) (a1 a2 : Option Addr) (ns c1 nd c2 : Nat) (w : World) (hl : n ≤ maxLen) (hn : ¬ (n : Int) ≤ 1048576) :
    Calls Try.prog 5 #[.agg #[.int .i64 S, .slice ao n cap], .agg #[.bool ok, .slice a1 ns c1, .slice a2 nd c2]] w fun e w' => e = .returned (.bool true) ∧ Below w.heap.size w w' := by
  go_enter Try.func5, Try.ntmps5
  go_wp2_with (first | (go_at_call 9; refine (szLayout_any _ _ _ _ _ hl).mono ?_; rw [if_neg hn]; rintro e w1 ⟨rfl, hb1⟩))
  go_ret
  exact ⟨rfl, (show Below w.heap.size w _ from (by repeat (first | exact Below.refl _ _ | assumption | refine below_alloc ?_ _ | refine Below.setCell ?_ (by first | omega | (simp; done) | (simp; omega)) _ | refine Below.alloc ?_ (by first | omega | (simp; done) | (simp; omega)) _ | refine Below.drew ?_))).trans (hb1.mono (by first | omega | (simp; done) | (simp; omega)))⟩

theorem so_great2 (S : Int) (ao : Option Addr) (n cap : Nat) (ok : Bool) (a1 a2 : Option Addr) (ns c1 nd c2 : Nat) (w : World) (hl : n ≤ maxLen) (hn : (n : Int) ≤ 1048576) (hs : ns ≤ maxLen) (hd : nd ≤ maxLen) (hz : szSt (1048576 - n) ns nd = -1) :
    Calls Try.prog 5 #[.agg #[.int .i64 S, .slice ao n cap], .agg #[.bool ok, .slice a1 ns c1, .slice a2 nd c2]] w fun e w' => e = .returned (.bool true) ∧ Below w.heap.size w w' := by
  have ks := fun W => szState_any ok a1 a2 ns c1 nd c2 (1048576 - n) W hs hd (by omega) (by omega)
  rw [hz] at ks
  go_enter Try.func5, Try.ntmps5
  go_wp2_with fail
  refine (szLayout_any _ _ _ _ _ hl).mono ?_
  rw [if_pos hn]
  rintro e w1 ⟨rfl, hb1⟩
  obtain ⟨q1, q2⟩ := bcell hb1
  have B1 := below_on (show Below w.heap.size w _ from (by repeat (first | exact Below.refl _ _ | assumption | refine below_alloc ?_ _ | refine Below.setCell ?_ (by first | omega | (simp; done) | (simp; omega)) _ | refine Below.alloc ?_ (by first | omega | (simp; done) | (simp; omega)) _ | refine Below.drew ?_))) hb1
  clear hb1
  go_wp2_with fail
  refine (ks _).mono ?_
  rintro e w2 ⟨rfl, hb2⟩
  go_wp2
  go_ret
  exact ⟨rfl, below_on B1 hb2⟩

set_option maxHeartbeats 2000000 in
theorem so_small (S : Int) (ao : Option Addr) (n cap : Nat) (F T : Nat → Int) (ok : Bool) (a1 a2 : Option Addr) (ns c1 nd c2 : Nat) (X : Nat → Sec) (D : Nat → Bool) (w : World) (hn : (n : Int) ≤ 1048576) (hz : ns + nd + n ≤ 1048576) (h : Came w ao n F T) (hX : CameS w a1 ns X) (hD : CameB w a2 nd D) :
    Calls Try.prog 5 #[.agg #[.int .i64 S, .slice ao n cap], .agg #[.bool ok, .slice a1 ns c1, .slice a2 nd c2]] w fun e w' => e = .returned (.bool true) ∧ Below w.heap.size w w' := by
  have hn' : n ≤ 1048576 := by omega
  have hs' : ns ≤ 1048576 := by omega
  have hd' : nd ≤ 1048576 := by omega
  have hl : n ≤ maxLen := by unfold maxLen; omega
  have ks := fun W => szState_any ok a1 a2 ns c1 nd c2 (1048576 - n) W (by unfold maxLen; omega) (by unfold maxLen; omega) (by omega) (by omega)
  have e0 : szSt (1048576 - n) ns nd = 1048576 - n - ns - nd := by unfold szSt; rw [if_pos (by omega)]
  rw [e0] at ks
  have p0 : ¬ ((1048576 : Int) - n - ns - nd < 0) := by omega
  obtain ⟨A, eA⟩ : ∃ A, (w.alloc (.cells #[.int .i64 S, .slice ao n cap] 24)).alloc (.cells #[.bool ok, .slice a1 ns c1, .slice a2 nd c2] 40) = A := ⟨_, rfl⟩
  have sA : A.heap.size = w.heap.size + 1 + 1 := by rw [← eA]; simp
  have b0 : Below w.heap.size w A := by rw [← eA]; exact (by repeat (first | exact Below.refl _ _ | assumption | refine below_alloc ?_ _ | refine Below.setCell ?_ (by first | omega | (simp; done) | (simp; omega)) _ | refine Below.alloc ?_ (by first | omega | (simp; done) | (simp; omega)) _ | refine Below.drew ?_))
  have hA : ∀ W, Below A.heap.size A W → Came W ao n F T ∧ CameS W a1 ns X ∧ CameB W a2 nd D ∧ W.cell? ⟨w.heap.size, 0, none⟩ = some (.int .i64 S) ∧ W.cell? ⟨w.heap.size, 1, none⟩ = some (.slice ao n cap) ∧ W.cell? ⟨w.heap.size + 1, 0, none⟩ = some (.bool ok) ∧ W.cell? ⟨w.heap.size + 1, 1, none⟩ = some (.slice a1 ns c1) ∧ W.cell? ⟨w.heap.size + 1, 2, none⟩ = some (.slice a2 nd c2) := fun W hb =>
    ⟨h.below (below_on b0 hb), hX.below (below_on b0 hb), hD.below (below_on b0 hb), (hb.cell (p := ⟨w.heap.size, 0, none⟩) (by simp; omega)).trans (by rw [← eA]; simp), (hb.cell (p := ⟨w.heap.size, 1, none⟩) (by simp; omega)).trans (by rw [← eA]; simp), (hb.cell (p := ⟨w.heap.size + 1, 0, none⟩) (by simp; omega)).trans (by rw [← eA]; simp), (hb.cell (p := ⟨w.heap.size + 1, 1, none⟩) (by simp; omega)).trans (by rw [← eA]; simp), (hb.cell (p := ⟨w.heap.size + 1, 2, none⟩) (by simp; omega)).trans (by rw [← eA]; simp)⟩
  obtain ⟨R, hR⟩ : ∃ R, stOk S n F T ok ns nd X D = R := ⟨_, rfl⟩
  have cS := fun g lo hi v W hr hs => specStateOk_any S g n lo hi F T v ok ns nd X D W hr hs
  have cI := fun g lo hi v W hr hs => implStateOk_any S g n lo hi F T v ok ns nd X D W hr hs
  rw [hR] at cS cI
  have EA : Hid ((w.alloc (.cells #[.int .i64 S, .slice ao n cap] 24)).alloc (.cells #[.bool ok, .slice a1 ns c1, .slice a2 nd c2] 40) = A) := eA
  clear h hX hD hR eA e0
  go_enter Try.func5, Try.ntmps5
  go_wp2_with fail
  rw [EA.out]
  refine (szLayout_any _ _ _ _ _ hl).mono ?_
  rw [if_pos hn]
  rintro e w1 ⟨rfl, B1⟩
  obtain ⟨mL, mS, mD, i0, i1, j0, j1, j2⟩ := hA _ B1
  go_wp2_with fail
  refine (ks _).mono ?_
  rintro e w2 ⟨rfl, hb2⟩
  have B2 := below_on B1 hb2
  clear B1 hb2 mL mS mD i0 i1 j0 j1 j2
  go_upto_region 8 with fail
  go_cut [6] from 20 (fun q wc => q = .bool R ∧ Below A.heap.size A wc)
  case first =>
    have Bc : Below A.heap.size A w2.drew := B2.drew
    obtain ⟨mL, mS, mD, i0, i1, j0, j1, j2⟩ := hA _ Bc
    clear B2
    go_region_with (first
      | (go_at_call 11; refine (toLayout_any _ _ _ _ F T _ hn' mL).mono ?_; rintro e wL ⟨gL, rfl, hgL, rL, hbL⟩; have Bc := below_on Bc hbL; obtain ⟨mL, mS, mD, i0, i1, j0, j1, j2⟩ := hA _ Bc; (try have sS := sS.on hbL))
      | (go_at_call 17; refine (toStateF _ _ _ _ _ _ _ X D _ hs' hd' mS mD).mono ?_; rintro e wS ⟨g1, g2, rfl, sS, hbS⟩; have Bc := below_on Bc hbS; obtain ⟨mL, mS, mD, i0, i1, j0, j1, j2⟩ := hA _ Bc; (try have rL := rL.on hbS))
      | (go_at_call 25; refine (cS _ _ _ _ _ rL sS).mono ?_; rintro e w4 ⟨rfl, hb4⟩; have Bc := below_on Bc hb4))
    all_goals
      go_wp2_with fail
      go_meet
      case rel => exact ⟨rfl, Bc⟩
  case rest =>
    clear B2
    obtain ⟨rfl, B5⟩ := hcut
    obtain ⟨mL, mS, mD, i0, i1, j0, j1, j2⟩ := hA _ B5
    go_wp2_with fail
    refine (toLayout_any _ _ _ _ F T _ hn' mL).mono ?_
    rintro e w6 ⟨g6, rfl, hg6, r6, hb6⟩
    have B6 := below_alloc (below_on B5 hb6) (.cells #[.int .i64 S, .slice (some ⟨g6, 0, none⟩) n n] 31)
    have r6' := r6.alloc (.cells #[.int .i64 S, .slice (some ⟨g6, 0, none⟩) n n] 31)
    have x0 : (w6.alloc (.cells #[.int .i64 S, .slice (some ⟨g6, 0, none⟩) n n] 31)).cell? ⟨w6.heap.size, 0, none⟩ = some (.int .i64 S) := by simp
    have x1 : (w6.alloc (.cells #[.int .i64 S, .slice (some ⟨g6, 0, none⟩) n n] 31)).cell? ⟨w6.heap.size, 1, none⟩ = some (.slice (some ⟨g6, 0, none⟩) n n) := by simp
    clear B5 hb6 r6 mL mS mD i0 i1 j0 j1 j2
    obtain ⟨mL, mS, mD, i0, i1, j0, j1, j2⟩ := hA _ B6
    go_wp2_with fail
    refine (toStateF _ _ _ _ _ _ _ X D _ hs' hd' mS mD).mono ?_
    rintro e w7 ⟨g1, g2, rfl, s7, hb7⟩
    have q7 : w6.heap.size < w7.heap.size := by have := hb7.size; simp at this; omega
    have x0 := (hb7.cell (p := ⟨w6.heap.size, 0, none⟩) (by simp)).trans x0
    have x1 := (hb7.cell (p := ⟨w6.heap.size, 1, none⟩) (by simp)).trans x1
    have r7 := (r6'.on hb7).alloc (.cells #[.bool ok, .slice (some ⟨g1, 0, none⟩) ns ns, .slice (some ⟨g2, 0, none⟩) nd nd] 44)
    have B7 := below_alloc (below_on B6 hb7) (.cells #[.bool ok, .slice (some ⟨g1, 0, none⟩) ns ns, .slice (some ⟨g2, 0, none⟩) nd nd] 44)
    have s7' := s7.alloc (.cells #[.bool ok, .slice (some ⟨g1, 0, none⟩) ns ns, .slice (some ⟨g2, 0, none⟩) nd nd] 44)
    have z7 := Box3.lay w7 (.bool ok) (.slice (some ⟨g1, 0, none⟩) ns ns) (.slice (some ⟨g2, 0, none⟩) nd nd) 44
    have y0 : (w7.alloc (.cells #[.bool ok, .slice (some ⟨g1, 0, none⟩) ns ns, .slice (some ⟨g2, 0, none⟩) nd nd] 44)).cell? ⟨w6.heap.size, 0, none⟩ = some (.int .i64 S) := by rw [World.cell?_alloc_past (hn := q7)]; exact x0
    have y1 : (w7.alloc (.cells #[.bool ok, .slice (some ⟨g1, 0, none⟩) ns ns, .slice (some ⟨g2, 0, none⟩) nd nd] 44)).cell? ⟨w6.heap.size, 1, none⟩ = some (.slice (some ⟨g6, 0, none⟩) n n) := by rw [World.cell?_alloc_past (hn := q7)]; exact x1
    have q8 : w6.heap.size < (w7.alloc (.cells #[.bool ok, .slice (some ⟨g1, 0, none⟩) ns ns, .slice (some ⟨g2, 0, none⟩) nd nd] 44)).heap.size := by simp; omega
    clear B6 hb7 r6' s7 mL mS mD i0 i1 j0 j1 j2
    go_wp2_with fail
    refine (cI _ _ _ _ _ r7 s7').mono ?_
    rintro e w8 ⟨rfl, hb8⟩
    have r8 := r7.on hb8
    have s8 := s7'.on hb8
    have z8 := z7.on hb8
    have B8 := below_on B7 hb8
    have y0 := (hb8.cell (p := ⟨w6.heap.size, 0, none⟩) q8).trans y0
    have y1 := (hb8.cell (p := ⟨w6.heap.size, 1, none⟩) q8).trans y1
    have q9 : w6.heap.size < w8.heap.size := Nat.lt_of_lt_of_le q8 hb8.size
    clear r7 s7' z7 B7 hb8 x0 x1 q8 q7
    go_upto_region 14 with fail
    go_cut [39] from 35 (fun q wc => q = .bool false ∧ Below A.heap.size A wc ∧ Box3 wc w7.heap.size 44 (.bool ok) (.slice (some ⟨g1, 0, none⟩) ns ns) (.slice (some ⟨g2, 0, none⟩) nd nd) ∧ StF wc (w6.alloc (.cells #[.int .i64 S, .slice (some ⟨g6, 0, none⟩) n n] 31)).heap.size w7.heap.size (.agg #[.bool ok, .slice (some ⟨g1, 0, none⟩) ns ns, .slice (some ⟨g2, 0, none⟩) nd nd]) ok ns nd X D)
    case first =>
      have Bc : Below A.heap.size A w8.drew := B8.drew
      have rL := r8.drew
      have sS := s8.drew
      have zS := z8.drew
      have qc : w6.heap.size < w8.drew.heap.size := q9
      have y0 : w8.drew.cell? ⟨w6.heap.size, 0, none⟩ = some (.int .i64 S) := y0
      have y1 : w8.drew.cell? ⟨w6.heap.size, 1, none⟩ = some (.slice (some ⟨g6, 0, none⟩) n n) := y1
      obtain ⟨mL, mS, mD, i0, i1, j0, j1, j2⟩ := hA _ Bc
      clear B8 r8 s8 z8 q9
      go_region_with (first
        | (go_at_call 11; refine (toLayout_any _ _ _ _ F T _ hn' mL).mono ?_; rintro e wL ⟨gL, rfl, hgL, rN, hbL⟩; have Bc := below_on Bc hbL; have y0 := (hbL.cell (p := ⟨w6.heap.size, 0, none⟩) qc).trans y0; have y1 := (hbL.cell (p := ⟨w6.heap.size, 1, none⟩) qc).trans y1; have rL := rL.on hbL; have sS := sS.on hbL; have zS := zS.on hbL)
        | (go_at_call 14; refine (eqLayout_same _ _ _ _ F T _ rL rN hn').mono ?_; rintro e w9 ⟨rfl, hb9⟩; have Bc := below_on Bc hb9; have sS := sS.on hb9; have zS := zS.on hb9))
      all_goals
        go_wp2_with fail
        go_meet
        case rel => exact ⟨rfl, Bc, zS, sS⟩
    case rest =>
      clear B8 r8 s8 z8 q9 y0 y1
      obtain ⟨rfl, B9, z9, s9⟩ := hcut
      go_upto_region 16 with fail
      rename World => w9
      have Bc : Below A.heap.size A w9.drew := B9.drew
      have sS := s9.drew
      have zS := z9.drew
      obtain ⟨y0, y1, y2⟩ := zS.cells
      obtain ⟨mL, mS, mD, i0, i1, j0, j1, j2⟩ := hA _ Bc
      clear B9 s9 z9
      go_region_with (first
        | (go_at_call 17; refine (toStateF _ _ _ _ _ _ _ X D _ hs' hd' mS mD).mono ?_; rintro e wS ⟨h1, h2, rfl, sN, hbS⟩; have Bc := below_on Bc hbS; have sS := sS.on hbS; have zS := zS.on hbS; obtain ⟨y0, y1, y2⟩ := zS.cells)
        | (go_at_call 20; refine (eqState_same _ _ _ _ _ _ _ _ _ _ _ _ _ _ hs' hd' sS sN (fun _ _ => rfl) (fun _ _ => rfl)).mono ?_; rintro e wX ⟨rfl, hbX⟩; have Bc := below_on Bc hbX))
      all_goals
        go_wp2
        go_ret
        exact ⟨rfl, below_on b0 Bc⟩

end Go.Proofs.Ytlpopfhaephfaab
