import Derived.Test.YtlpopfhaephfaaaGreatDoorCR
import Derived.Lib.AppendStr
import Derived.Lib.BufferRead
import Derived.Test.YtlpopfhaephfaaaGreatDoorQS
import Derived.Test.YtlpopfhaephfaaaGreatDoorQN
import Derived.Test.YtlpopfhaephfaaaGreatDoorRE1
import Derived.BigQuiet
import Derived.Lib.QuietBelow
import Derived.Deep.RegionWith
import Derived.Deep.QuietTactic
namespace Go.Proofs.YtlpopfhaephfaaaGreatDoor
open Go.RowKit

/-- A slice of bytes that the call owns, as a string. -/
theorem conv_own {w : World} {B : Nat} {q : Value} {l : List UInt8} (h : w.ownsRow B 5 1 q l.length (Lib.byteCells l)) :
    (convert 22 9 q).run Tryz.prog w = .ok (.string ⟨l.toArray⟩) w := by
  have hc := fun g hg => h.cells (g := g) hg
  rcases h.2 with ⟨rfl, h0⟩ | ⟨g, cap, cur, rfl, _⟩
  · have : l = [] := List.length_eq_zero_iff.1 h0
    subst this
    exact Lib.run_convert_nil_bytes w _ _ 5 0 Tryz.underlying22 Tryz.underlying5 Tryz.underlying9
  · exact run_convert_bytes_back w _ _ 5 ⟨g, 0, none⟩ cap l Tryz.underlying22 Tryz.underlying5 Tryz.underlying9 (fun j hj => hc g rfl j _ (by simp [Lib.byteCells, hj]))

theorem wrZ_bad {S : Int} {n : Nat} {F T : Nat → Int} {P : Nat → Nat → Int} {m k : Nat} (hk : k < m) (h : evOk S n F T (P k 0) (P k 1) (P k 2) = false) : wrZ S n F T P m = [] := by
  unfold wrZ
  rw [if_neg]
  intro h1
  simp only [Bool.and_eq_true] at h1
  have := evsB_le h1.1.2 k hk
  unfold evOk at h
  rw [this, h1.1.1.1] at h
  cases h

theorem wrZ_many {S : Int} {n : Nat} {F T : Nat → Int} {P : Nat → Nat → Int} {m : Nat} (h : 2000 < m) : wrZ S n F T P m = [] := by
  unfold wrZ
  rw [if_neg]
  simp; omega

theorem wrZ_long {S : Int} {n : Nat} {F T : Nat → Int} {P : Nat → Nat → Int} {m : Nat} (h : 20000 < (linesB P m).length) : wrZ S n F T P m = [] := by
  unfold wrZ
  rw [if_neg]
  simp; omega

theorem wrZ_good {S : Int} {n : Nat} {F T : Nat → Int} {P : Nat → Nat → Int} {m : Nat} (h1 : m = 0 ∨ lokZ S n F T = 0) (h2 : m ≤ 2000) (h3 : evsB S n P m = true) (h4 : (linesB P m).length ≤ 20000) : wrZ S n F T P m = linesB P m := by
  unfold wrZ
  rcases h1 with rfl | h1
  · split <;> rfl
  · rw [if_pos]
    rw [h1, h3]
    simp [h2, h4]

set_option maxRecDepth 100000 in
set_option maxHeartbeats 2000000 in
theorem specWrite_any (S : Int) (g n m ce : Nat) (ae : Option Addr) (F T : Nat → Int) (P : Nat → Nat → Int) (w : World) (hm : m ≤ 1048576) (hrow : CRow w g n F T) (hev : Came3 w ae m P) :
    Calls Tryz.prog 7 #[.agg #[.int .i64 S, .slice (gA g) n (gC g)], .slice ae m ce] w fun e w' => e = .returned (.string ⟨(wrZ S n F T P m).toArray⟩) ∧ Below w.heap.size w w' := by
  by_cases hm2 : 2000 < m
  · rw [wrZ_many hm2]
    have hi : (2000 : Int) < (m : Int) := by omega
    go_enter Tryz.func7, Tryz.ntmps7
    go_wp2
    go_ret
    exact ⟨rfl, (by repeat (first | exact Below.refl _ _ | assumption | refine below_alloc ?_ _ | refine Below.setCell ?_ (by first | omega | (simp; done) | (simp; omega)) _ | refine Below.alloc ?_ (by first | omega | (simp; done) | (simp; omega)) _ | refine Below.drew ?_))⟩
  · have hi : ¬ (2000 : Int) < (m : Int) := by omega
    obtain ⟨i0, hi0, hz0, hz1, hz2⟩ := info_parts Tryz.infoU8
    obtain ⟨V, eV⟩ : ∃ V, w.alloc (.cells #[.int .i64 S, .slice (gA g) n (gC g)] 25) = V := ⟨_, rfl⟩
    have sV : w.heap.size < V.heap.size := by rw [← eV]; simp
    have bV : Below w.heap.size w V := by rw [← eV]; exact (by repeat (first | exact Below.refl _ _ | assumption | refine below_alloc ?_ _ | refine Below.setCell ?_ (by first | omega | (simp; done) | (simp; omega)) _ | refine Below.alloc ?_ (by first | omega | (simp; done) | (simp; omega)) _ | refine Below.drew ?_))
    have bL : Blk V w.heap.size 25 2 (fun i => if i = 0 then .int .i64 S else .slice (gA g) n (gC g)) := by
      rw [← eV]
      exact Blk.new w #[.int .i64 S, .slice (gA g) n (gC g)] 25 _ (fun i hi => by simp at hi; match i, hi with | 0, _ => rfl | 1, _ => rfl)
    have P0 : ∀ W, Below V.heap.size V W → (W.cell? ⟨w.heap.size, 0, none⟩ = some (.int .i64 S) ∧ W.cell? ⟨w.heap.size, 1, none⟩ = some (.slice (gA g) n (gC g))) ∧ CRow W g n F T ∧ Came3 W ae m P := fun W hb => ⟨⟨(bL.on hb).cell (i := 0) (by omega), (bL.on hb).cell (i := 1) (by omega)⟩, hrow.on (below_on bV hb), hev.below (below_on bV hb)⟩
    have EV : Hid _ := eV
    clear eV bL hrow hev
    go_enter Tryz.func7, Tryz.ntmps7
    go_wp2
    rw [EV.out]
    go_loopw [5, 13] (fun q i wr => ∃ k : Nat, k ≤ m ∧ i = .int .i64 k ∧ wr.ownsRow V.heap.size 5 1 q (linesB P k).length (Lib.byteCells (linesB P k)) ∧ Below V.heap.size V wr ∧ Hid ((k = 0 ∨ lokZ S n F T = 0) ∧ evsB S n P k = true ∧ (linesB P k).length ≤ 30 * k)) (fun _ i _ => m - (intOf i).toNat)
    case atStart => exact ⟨0, Nat.zero_le _, rfl, World.ownsRow_nil _ _ _ _, Below.refl _ _, ⟨.inl rfl, rfl, by simp [linesB]⟩⟩
    case round =>
      clear EV
      obtain ⟨k, hk, rfl, hI, Bw, hH⟩ := hrel
      by_cases hlt : k < m
      · have hi1 : (k : Int) < (m : Int) := by omega
        obtain ⟨⟨y0, y1⟩, ro, ca⟩ := P0 wr Bw
        obtain ⟨bE, oE, rfl, c0, c1, c2⟩ := ca.cells hlt
        obtain ⟨op, eop⟩ : ∃ op, P k 0 = op := ⟨_, rfl⟩
        obtain ⟨f, ef⟩ : ∃ f, P k 1 = f := ⟨_, rfl⟩
        obtain ⟨d, ed⟩ : ∃ d, P k 2 = d := ⟨_, rfl⟩
        rw [eop] at c0
        rw [ef] at c1
        rw [ed] at c2
        have EO : Hid (P k 0 = op ∧ P k 1 = f ∧ P k 2 = d) := ⟨eop, ef, ed⟩
        clear eop ef ed ca
        have zw : w.heap.size < wr.heap.size := by have := Bw.size; omega
        have rE := ro.alloc (.cells #[.int .i64 op, .int .i64 f, .int .i64 d] 47)
        have ke := specEventOk_any S op f d g n F T _ rE
        have bE1 : Blk (wr.alloc (.cells #[.int .i64 op, .int .i64 f, .int .i64 d] 47)) wr.heap.size 47 3 (fun i => if i = 0 then .int .i64 op else if i = 1 then .int .i64 f else .int .i64 d) := Blk.new wr #[.int .i64 op, .int .i64 f, .int .i64 d] 47 _ (fun i hi => by simp at hi; match i, hi with | 0, _ => rfl | 1, _ => rfl | 2, _ => rfl)
        have bA : Below wr.heap.size wr (wr.alloc (.cells #[.int .i64 op, .int .i64 f, .int .i64 d] 47)) := below_alloc (Below.refl _ _) _
        cases hv : evOk S n F T op f d
        · rw [hv] at ke
          have hz : Hid (wrZ S n F T P m = []) := wrZ_bad hlt (by rw [EO.out.1, EO.out.2.1, EO.out.2.2]; exact hv)
          clear hv bE1 rE ro hH
          go_wp2_with fail
          refine ke.mono ?_
          clear ke
          rintro e w4 ⟨rfl, hb4⟩
          have FIN := below_on bV (below_on Bw (below_on bA hb4))
          go_wp2
          go_ret
          exact ⟨by rw [hz.out]; rfl, FIN⟩
        · rw [hv] at ke
          simp only [evOk, Bool.and_eq_true, beq_iff_eq] at hv
          obtain ⟨hl, hb⟩ := hv
          obtain ⟨r1, r2, r3⟩ := lok_range hl
          obtain ⟨⟨o1, o2⟩, ⟨f1, f2⟩, hd⟩ := evB_range hb r3 r2
          have kl := fun W => l4line_any op f d o1 o2 f1 (by omega) hd W
          obtain ⟨L, eL⟩ : ∃ L, lineB op f d = L := ⟨_, rfl⟩
          obtain ⟨L1, eL1⟩ : ∃ L1, L ++ [10] = L1 := ⟨_, rfl⟩
          have hL := lineB_length op f d f1 (by omega)
          rw [eL] at kl hL
          have hadd : ∀ X : World, (Op.stringOp .add ⟨L.toArray⟩ ⟨#[10]⟩).run Tryz.prog X = .ok (.string ⟨L1.toArray⟩) X := fun X => by rw [← eL1]; exact run_string_add_lists X L [10] (by omega) (by simp)
          have hL1 : L1.length ≤ 30 := by rw [← eL1]; simp; omega
          have en : linesB P (k + 1) = linesB P k ++ L1 := by rw [← eL1, ← eL, linesB, EO.out.1, EO.out.2.1, EO.out.2.2]
          have hH' : Hid ((k + 1 = 0 ∨ lokZ S n F T = 0) ∧ evsB S n P (k + 1) = true ∧ (linesB P (k + 1)).length ≤ 30 * (k + 1)) := by
            refine ⟨.inr hl, ?_, ?_⟩
            · simp only [evsB, EO.out.1, EO.out.2.1, EO.out.2.2, hb, hH.out.2.1]; rfl
            · rw [en, List.length_append]; have := hH.out.2.2; omega
          have hlk : (linesB P k).length ≤ 60000 := by have := hH.out.2.2; omega
          obtain ⟨Z, eZ⟩ : ∃ Z, linesB P k = Z := ⟨_, rfl⟩
          rw [eZ] at hI hlk en
          have EN : Hid _ := en
          clear hl hb hH eL eL1 eZ en EO o1 o2 f1 f2 hd rE ro r1 r2 r3 hL
          go_wp2_with fail
          refine ke.mono ?_
          clear ke
          rintro e w4 ⟨rfl, hb4⟩
          have bE4 := bE1.on hb4
          have e0 : w4.cell? ⟨wr.heap.size, 0, none⟩ = some (.int .i64 op) := bE4.cell (i := 0) (by omega)
          have e1 : w4.cell? ⟨wr.heap.size, 1, none⟩ = some (.int .i64 f) := bE4.cell (i := 1) (by omega)
          have e2 : w4.cell? ⟨wr.heap.size, 2, none⟩ = some (.int .i64 d) := bE4.cell (i := 2) (by omega)
          have hI4 := own_on hI (below_on bA hb4)
          have B4 := below_on Bw (below_on bA hb4)
          clear hb4 bE1 bE4 hI Bw y0 y1 c0 c1 c2 bA
          go_wp2_with fail
          refine (kl _).mono ?_
          clear kl e0 e1 e2
          rintro e w5 ⟨rfl, hb5⟩
          have hI5 := own_on hI4 hb5
          have B5 := below_on B4 hb5
          have z5 := B5.size
          clear hb5 hI4 B4
          go_wp2_with (at_builtin; refine Lib.wpList_append_own_string _ rfl _ _ 22 9 rfl V.heap.size 5 i0 Tryz.underlying22 Tryz.underlying9 hi0 hz0 hz1 hz2 _ _ _ rfl hI5 ⟨L1.toArray⟩ rfl ?c3 ?c4 ?c5 ?_)
          case c3 => unfold maxLen; rw [str_size]; omega
          case c4 => rw [str_size]; omega
          case c5 => exact z5
          intro v' w6 hown' hgrow _
          have B6 : Below V.heap.size V w6 := B5.grown hgrow z5 (fun k hk => (hI5.lt k hk).1)
          have hI6 : w6.ownsRow V.heap.size 5 1 v' (linesB P (k + 1)).length (Lib.byteCells (linesB P (k + 1))) := by
            rw [EN.out, List.length_append]
            have : Lib.byteCells (Z ++ L1) = Lib.byteCells Z ++ Lib.strCells ⟨L1.toArray⟩ := by simp [Lib.byteCells, Lib.strCells]
            rw [this]
            exact hown'
          clear hown' hgrow hI5 B5
          go_wp2
          exact ⟨⟨k + 1, hlt, by simp, hI6, B6, hH'⟩, by simp [intOf]; omega⟩
      · have hi1 : ¬ (k : Int) < (m : Int) := by omega
        obtain rfl : k = m := by omega
        obtain ⟨h1, h2, h3⟩ := hH.out
        have hcv := conv_own hI
        have FIN := below_on bV Bw
        obtain ⟨ao, cap, rfl⟩ : ∃ ao cap, u5 = .slice ao (linesB P k).length cap := by
          rcases hI.2 with ⟨hv, h0⟩ | ⟨g, cap, cur, hv, _⟩
          · exact ⟨_, _, by rw [h0]; exact hv⟩
          · exact ⟨_, _, hv⟩
        by_cases hlong : 20000 < (linesB P k).length
        · have hz : Hid (wrZ S n F T P k = []) := wrZ_long hlong
          have hi2 : (20000 : Int) < ((linesB P k).length : Int) := by omega
          clear hI hH h1 h2 h3 hlong
          go_wp2
          go_ret
          exact ⟨by rw [hz.out]; rfl, FIN⟩
        · have hz : Hid (wrZ S n F T P k = linesB P k) := wrZ_good h1 (by omega) h2 (by omega)
          have hi2 : ¬ (20000 : Int) < ((linesB P k).length : Int) := by omega
          clear hI hH h1 h2 h3 hlong
          go_wp2
          go_ret
          exact ⟨by rw [hz.out]; rfl, FIN⟩

end Go.Proofs.YtlpopfhaephfaaaGreatDoor

namespace Go.Proofs.YtlpopfhaephfaaaGreatDoor
open Go.RowKit

theorem wrZ_lay {S : Int} {n : Nat} {F T : Nat → Int} {P : Nat → Nat → Int} {m : Nat} (h : (lokZ S n F T == 0 && decide (m ≤ 2000)) = false) : wrZ S n F T P m = [] := by
  unfold wrZ
  rw [if_neg]
  intro h1
  simp only [Bool.and_eq_true] at h1
  rw [h1.1.1.1, h1.1.1.2] at h
  cases h

set_option maxRecDepth 100000 in
set_option maxHeartbeats 2000000 in
theorem implWrite_any (S : Int) (g n m ce : Nat) (ae : Option Addr) (F T : Nat → Int) (P : Nat → Nat → Int) (w : World) (hm : m ≤ 1048576) (hrow : CRow w g n F T) (hev : Came3 w ae m P) (hla : Lay w) :
    Calls Tryz.prog 5 #[.agg #[.int .i64 S, .slice (gA g) n (gC g)], .slice ae m ce] w fun e w' => e = .returned (.string ⟨(wrZ S n F T P m).toArray⟩) ∧ Below w.heap.size w w' := by
  obtain ⟨V, eV⟩ : ∃ V, w.alloc (.cells #[.int .i64 S, .slice (gA g) n (gC g)] 25) = V := ⟨_, rfl⟩
  have sV : w.heap.size < V.heap.size := by rw [← eV]; simp
  have bV : Below w.heap.size w V := by rw [← eV]; exact (by repeat (first | exact Below.refl _ _ | assumption | refine below_alloc ?_ _ | refine Below.setCell ?_ (by first | omega | (simp; done) | (simp; omega)) _ | refine Below.alloc ?_ (by first | omega | (simp; done) | (simp; omega)) _ | refine Below.drew ?_))
  have bL : Blk V w.heap.size 25 2 (fun i => if i = 0 then .int .i64 S else .slice (gA g) n (gC g)) := by
    rw [← eV]
    exact Blk.new w #[.int .i64 S, .slice (gA g) n (gC g)] 25 _ (fun i hi => by simp at hi; match i, hi with | 0, _ => rfl | 1, _ => rfl)
  have kr := runOk_any S g n m ce ae F T V hm (hrow.on bV)
  have EV : Hid _ := eV
  cases hok : (lokZ S n F T == 0 && decide (m ≤ 2000))
  · rw [hok] at kr
    have hz : Hid (wrZ S n F T P m = []) := wrZ_lay hok
    clear eV bL hrow hev hla hok
    go_enter Tryz.func5, Tryz.ntmps5
    go_wp2_with fail
    rw [EV.out]
    refine kr.mono ?_
    rintro e w1 ⟨rfl, hb1⟩
    have FIN := below_on bV hb1
    clear kr hb1
    go_wp2
    go_ret
    exact ⟨by rw [hz.out]; rfl, FIN⟩
  · rw [hok] at kr
    simp only [Bool.and_eq_true, beq_iff_eq, decide_eq_true_eq] at hok
    obtain ⟨hl, hm2⟩ := hok
    obtain ⟨r1, r2, r3⟩ := lok_range hl
    have hla' := hla.on bV
    have hro := hrow.on bV
    have hev' := hev.below bV
    clear eV hrow hev hla
    go_enter Tryz.func5, Tryz.ntmps5
    go_wp2_with fail
    rw [EV.out]
    refine kr.mono ?_
    clear kr EV
    rintro e w1 ⟨rfl, hb1⟩
    have P0 : ∀ W, Below w1.heap.size w1 W → (W.cell? ⟨w.heap.size, 0, none⟩ = some (.int .i64 S) ∧ W.cell? ⟨w.heap.size, 1, none⟩ = some (.slice (gA g) n (gC g))) ∧ Lay W ∧ Came3 W ae m P := fun W hb => ⟨⟨(bL.on (below_on hb1 hb)).cell (i := 0) (by omega), (bL.on (below_on hb1 hb)).cell (i := 1) (by omega)⟩, hla'.on (below_on hb1 hb), hev'.below (below_on hb1 hb)⟩
    have s1 : w.heap.size < w1.heap.size := by have := hb1.size; omega
    have bV1 := below_on bV hb1
    clear hb1 bV bL hla' hro hev' sV
    have I0 := Lib.IsBuilderF.of (Lib.fresh_isBuilder 45 5 w1)
    have B0 : Below w1.heap.size w1 (w1.alloc (.cells #[.pointer none, .slice none 0 0] 45)) := below_alloc (Below.refl _ _) _
    go_wp2
    go_loopw [14] (fun i wr => ∃ k : Nat, k ≤ m ∧ i = .int .i64 k ∧ Lib.IsBuilderF 45 5 w1.heap.size w1.heap.size (Lib.byteCells (linesB P k)) wr ∧ Below w1.heap.size w1 wr ∧ Hid (evsB S n P k = true ∧ (linesB P k).length ≤ 30 * k)) (fun i _ => m - (intOf i).toNat)
    case atStart => exact ⟨0, Nat.zero_le _, rfl, I0, B0, ⟨rfl, by simp [linesB]⟩⟩
    case round =>
      clear I0 B0
      obtain ⟨k, hk, rfl, hI, Bw, hH⟩ := hrel
      have hbl := builder_lt hI
      by_cases hlt : k < m
      · have hi1 : (k : Int) < (m : Int) := by omega
        obtain ⟨⟨y0, y1⟩, la, ca⟩ := P0 wr Bw
        obtain ⟨bE, oE, rfl, c0, c1, c2⟩ := ca.cells hlt
        obtain ⟨op, eop⟩ : ∃ op, P k 0 = op := ⟨_, rfl⟩
        obtain ⟨f, ef⟩ : ∃ f, P k 1 = f := ⟨_, rfl⟩
        obtain ⟨d, ed⟩ : ∃ d, P k 2 = d := ⟨_, rfl⟩
        rw [eop] at c0
        rw [ef] at c1
        rw [ed] at c2
        have EO : Hid (P k 0 = op ∧ P k 1 = f ∧ P k 2 = d) := ⟨eop, ef, ed⟩
        clear eop ef ed ca
        have zw : w.heap.size < wr.heap.size := by have := Bw.size; omega
        have ke := happensIn_any S op f d n g (wr.alloc (.cells #[.int .i64 op, .int .i64 f, .int .i64 d] 47)) r3
        have bE1 : Blk (wr.alloc (.cells #[.int .i64 op, .int .i64 f, .int .i64 d] 47)) wr.heap.size 47 3 (fun i => if i = 0 then .int .i64 op else if i = 1 then .int .i64 f else .int .i64 d) := Blk.new wr #[.int .i64 op, .int .i64 f, .int .i64 d] 47 _ (fun i hi => by simp at hi; match i, hi with | 0, _ => rfl | 1, _ => rfl | 2, _ => rfl)
        have bA : Below wr.heap.size wr (wr.alloc (.cells #[.int .i64 op, .int .i64 f, .int .i64 d] 47)) := below_alloc (Below.refl _ _) _
        cases hv : evB S n op f d
        · have hn : hapI S n op f d = .nilIface := by unfold hapI; rw [hv]; rfl
          rw [hn] at ke
          have hz : Hid (wrZ S n F T P m = []) := wrZ_bad hlt (by rw [EO.out.1, EO.out.2.1, EO.out.2.2]; unfold evOk; rw [hv]; simp)
          clear hv hn bE1 la hH hI
          go_wp2_with fail
          refine ke.mono ?_
          clear ke
          rintro e w4 ⟨rfl, hb4⟩
          have FIN := below_on bV1 (below_on Bw (below_on bA hb4))
          go_wp2
          go_ret
          exact ⟨by rw [hz.out]; rfl, FIN⟩
        · obtain ⟨t0, v0, hn⟩ := hap_ne hv
          rw [hn] at ke
          obtain ⟨⟨o1, o2⟩, ⟨f1, f2⟩, hd⟩ := evB_range hv r3 r2
          have kl := fun W hL => lineOf_any op f d o1 o2 f1 (by omega) hd W hL
          obtain ⟨L1, eL1⟩ : ∃ L1, lineB op f d ++ [10] = L1 := ⟨_, rfl⟩
          have hL := lineB_length op f d f1 (by omega)
          have hL1 : L1.length ≤ 30 := by rw [← eL1]; simp; omega
          rw [eL1] at kl
          have en : linesB P (k + 1) = linesB P k ++ L1 := by rw [← eL1, linesB, EO.out.1, EO.out.2.1, EO.out.2.2]
          have hH' : Hid (evsB S n P (k + 1) = true ∧ (linesB P (k + 1)).length ≤ 30 * (k + 1)) := by
            refine ⟨?_, ?_⟩
            · simp only [evsB, EO.out.1, EO.out.2.1, EO.out.2.2, hv, hH.out.1]; rfl
            · rw [en, List.length_append]; have := hH.out.2; omega
          have hlk : (linesB P k).length ≤ 60000 := by have := hH.out.2; omega
          obtain ⟨Z, eZ⟩ : ∃ Z, linesB P k = Z := ⟨_, rfl⟩
          rw [eZ] at hI hlk en
          have EN : Hid _ := en
          clear hv hH eL1 eZ en EO o1 o2 f1 f2 hd hL hn
          go_wp2_with fail
          refine ke.mono ?_
          clear ke
          rintro e w4 ⟨rfl, hb4⟩
          have bE4 := bE1.on hb4
          have e0 : w4.cell? ⟨wr.heap.size, 0, none⟩ = some (.int .i64 op) := bE4.cell (i := 0) (by omega)
          have e1 : w4.cell? ⟨wr.heap.size, 1, none⟩ = some (.int .i64 f) := bE4.cell (i := 1) (by omega)
          have e2 : w4.cell? ⟨wr.heap.size, 2, none⟩ = some (.int .i64 d) := bE4.cell (i := 2) (by omega)
          have hI4 := builder_on hI (below_on bA hb4)
          have B4 := below_on Bw (below_on bA hb4)
          have la4 := la.on (below_on bA hb4)
          clear hb4 bE1 bE4 hI Bw y0 y1 c0 c1 c2 bA la
          go_wp2_with fail
          refine (kl _ la4).mono ?_
          clear kl e0 e1 e2
          rintro e w5 ⟨rfl, hb5⟩
          have hI5 := builder_on hI4 hb5
          have B5 := below_on B4 hb5
          clear hb5 hI4 B4 la4
          go_wp2_with fail
          refine (writeString_any _ _ _ _ _ hI5 (by rw [str_size, Lib.byteCells_length]; omega) B5.size).mono ?_
          rintro e w6 ⟨vv, rfl, hI6, hb6⟩
          have B6 := B5.trans hb6
          have hI7 : Lib.IsBuilderF 45 5 w1.heap.size w1.heap.size (Lib.byteCells (linesB P (k + 1))) w6 := by
            rw [EN.out]
            have : Lib.byteCells (Z ++ L1) = Lib.byteCells Z ++ Lib.strCells ⟨L1.toArray⟩ := by simp [Lib.byteCells, Lib.strCells]
            rw [this]
            exact hI6
          clear hb6 hI6 hI5 B5
          go_wp2
          exact ⟨⟨k + 1, hlt, by simp, hI7, B6, hH'⟩, by simp [intOf]; omega⟩
      · have hi1 : ¬ (k : Int) < (m : Int) := by omega
        obtain rfl : k = m := by omega
        obtain ⟨h2, h3⟩ := hH.out
        have FIN := below_on bV1 Bw
        have kL := Tryz.Builder_Len_f _ _ _ _ hI
        rw [Lib.byteCells_length] at kL
        by_cases hlong : 20000 < (linesB P k).length
        · have hz : Hid (wrZ S n F T P k = []) := wrZ_long hlong
          have hi2 : (20000 : Int) < ((linesB P k).length : Int) := by omega
          clear hI hH h2 h3 hlong
          go_wp2_with fail
          refine kL.mono ?_
          clear kL
          rintro e w6 ⟨rfl, rfl⟩
          go_wp2
          go_ret
          exact ⟨by rw [hz.out]; rfl, FIN⟩
        · have hz : Hid (wrZ S n F T P k = linesB P k) := wrZ_good (.inr hl) (by omega) h2 (by omega)
          have hi2 : ¬ (20000 : Int) < ((linesB P k).length : Int) := by omega
          have kS := Tryz.Builder_String_any_k _ _ _ _ hI Bw.size
          clear hH h2 h3 hlong
          go_wp2_with fail
          refine kL.mono ?_
          clear kL
          rintro e w6 ⟨rfl, rfl⟩
          go_wp2_with fail
          refine kS.mono ?_
          clear kS
          rintro e w7 ⟨rfl, _, hb7, _⟩
          have FIN7 : Below w.heap.size w w7 := bV1.trans ((Bw.trans hb7).mono bV1.size)
          go_wp2
          go_ret
          exact ⟨by rw [hz.out]; rfl, FIN7⟩

end Go.Proofs.YtlpopfhaephfaaaGreatDoor

namespace Go.Proofs.YtlpopfhaephfaaaGreatDoor
open Go.RowKit

theorem tri {w : World} {g e m n k : Nat} {f : Nat → Value} {P : Nat → Nat → Int} (h : Blk w g e m f) (hm : n * 3 ≤ m) (hk : k < n) (hf : ∀ i, i < n → ∀ j, j < 3 → f (i * 3 + j) = evs P i j) :
    w.cell? ⟨g, k * 3, none⟩ = some (.int .i64 (P k 0)) ∧ w.cell? ⟨g, k * 3 + 1, none⟩ = some (.int .i64 (P k 1)) ∧ w.cell? ⟨g, k * 3 + 2, none⟩ = some (.int .i64 (P k 2)) :=
  ⟨by rw [h.cell (by omega)]; exact congrArg some (hf k hk 0 (by omega)), by rw [h.cell (by omega), hf k hk 1 (by omega)]; rfl, by rw [h.cell (by omega), hf k hk 2 (by omega)]; rfl⟩

set_option maxRecDepth 100000 in
set_option maxHeartbeats 4000000 in
theorem wEvents_same (lo hi lo' hi' m : Nat) (v v' : Value) (P : Nat → Nat → Int) (w : World) (hm : m ≤ 1048576) (h : SlF w 47 3 lo hi v m (evs P)) (h' : SlF w 47 3 lo' hi' v' m (evs P)) :
    Calls Tryz.prog 8 #[v, v'] w fun e w' => e = .returned (.bool true) ∧ Below w.heap.size w w' := by
  obtain ⟨ao, cap, rfl, h0⟩ := h
  obtain ⟨ao', cap', rfl, h0'⟩ := h'
  go_enter Tryz.func8, Tryz.ntmps8
  go_wp2
  go_loopw [13] (fun i wr => ∃ k : Nat, k ≤ m ∧ i = .int .i64 k ∧ Below w.heap.size w wr) (fun i _ => m - (intOf i).toNat)
  case atStart => exact ⟨0, Nat.zero_le _, rfl, Below.refl _ _⟩
  case round =>
    obtain ⟨k, hk, rfl, hbel⟩ := hrel
    by_cases hlt : k < m
    · have hi1 : (k : Int) < (m : Int) := by omega
      rcases h0 with h0 | ⟨g, mm, f, rfl, _, _, h2, h3, h4⟩
      · omega
      rcases h0' with h0' | ⟨g', mm', f', rfl, _, _, h2', h3', h4'⟩
      · omega
      obtain ⟨f0, f1, f2⟩ := tri (h3.below hbel h3.lt) h2 hlt h4
      obtain ⟨g0, g1, g2⟩ := tri (h3'.below hbel h3'.lt) h2' hlt h4'
      have HB : Hid (Below w.heap.size w wr) := hbel
      clear h3 h3' h4 h4' hbel
      go_wp2
      go_region
      go_wp2
      go_roundw
      case rel => exact ⟨k + 1, by omega, by go_num, HB.out.drew⟩
      case measure => simp [intOf]; omega
    · have hkn : k = m := by omega
      subst hkn
      go_wp2
      go_ret
      exact ⟨rfl, hbel⟩

end Go.Proofs.YtlpopfhaephfaaaGreatDoor
