import Derived.Lib.AppendStr
import Derived.Lib.BufferRead
import Derived.Test.YtlpopfhaephfaabDoorTX5
import Derived.Test.YtlpopfhaephfaabDoorTW1
import Derived.Test.YtlpopfhaephfaabDoorHO
namespace Go.Proofs.YtlpopfhaephfaabDoor
open Go.RowKit

/-- A slice of bytes that the call owns, as a string. -/
theorem conv_own {w : World} {B : Nat} {q : Value} {l : List UInt8} (h : w.ownsRow B 5 1 q l.length (Lib.byteCells l)) :
    (convert 63 9 q).run Tryd.prog w = .ok (.string ⟨l.toArray⟩) w := by
  have hc := fun g hg => h.cells (g := g) hg
  rcases h.2 with ⟨rfl, h0⟩ | ⟨g, cap, cur, rfl, _⟩
  · have : l = [] := List.length_eq_zero_iff.1 h0
    subst this
    exact Lib.run_convert_nil_bytes w _ _ 5 0 Tryd.underlying63 Tryd.underlying5 Tryd.underlying9
  · exact run_convert_bytes_back w _ _ 5 ⟨g, 0, none⟩ cap l Tryd.underlying63 Tryd.underlying5 Tryd.underlying9 (fun j hj => hc g rfl j _ (by simp [Lib.byteCells, hj]))

theorem wrZ_bad {S : Int} {n : Nat} {F T : Nat → Int} {P : Nat → Nat → Int} {m k : Nat} (hk : k < m) (h : evOk S n F T (P k 0) (P k 1) (P k 2) = false) : wrZ S n F T P m = [] := by
  unfold wrZ
  rw [if_neg]
  intro h1
  simp only [Bool.and_eq_true] at h1
  have := evsB_le h1.1.2 k hk
  unfold evOk at h
  rw [this, h1.1.1.1] at h
  cases h

theorem wrZ_many {S : Int} {n : Nat} {F T : Nat → Int} {P : Nat → Nat → Int} {m : Nat} (h : 2000 < m) : wrZ S n F T P m = [] := by
  unfold wrZ
  rw [if_neg]
  simp; omega

theorem wrZ_long {S : Int} {n : Nat} {F T : Nat → Int} {P : Nat → Nat → Int} {m : Nat} (h : 20000 < (linesB P m).length) : wrZ S n F T P m = [] := by
  unfold wrZ
  rw [if_neg]
  simp; omega

theorem wrZ_good {S : Int} {n : Nat} {F T : Nat → Int} {P : Nat → Nat → Int} {m : Nat} (h1 : m = 0 ∨ lokZ S n F T = 0) (h2 : m ≤ 2000) (h3 : evsB S n P m = true) (h4 : (linesB P m).length ≤ 20000) : wrZ S n F T P m = linesB P m := by
  unfold wrZ
  rcases h1 with rfl | h1
  · split <;> rfl
  · rw [if_pos]
    rw [h1, h3]
    simp [h2, h4]

set_option maxRecDepth 100000 in
set_option maxHeartbeats 2000000 in
theorem specWrite_any (S : Int) (g n m ce : Nat) (ae : Option Addr) (F T : Nat → Int) (P : Nat → Nat → Int) (w : World) (hm : m ≤ 1048576) (hrow : Row w g 81 2 n (two F T)) (hev : Came3 w ae m P) :
    Calls Tryd.prog 14 #[.agg #[.int .i64 S, .slice (some ⟨g, 0, none⟩) n n], .slice ae m ce] w fun e w' => e = .returned (.string ⟨(wrZ S n F T P m).toArray⟩) ∧ Below w.heap.size w w' := by
  by_cases hm2 : 2000 < m
  · rw [wrZ_many hm2]
    have hi : (2000 : Int) < (m : Int) := by omega
    go_enter Tryd.func14, Tryd.ntmps14
    go_wp2
    go_ret
    exact ⟨rfl, (by repeat (first | exact Below.refl _ _ | assumption | refine below_alloc ?_ _ | refine Below.setCell ?_ (by first | omega | (simp; done) | (simp; omega)) _ | refine Below.alloc ?_ (by first | omega | (simp; done) | (simp; omega)) _ | refine Below.drew ?_))⟩
  · have hi : ¬ (2000 : Int) < (m : Int) := by omega
    obtain ⟨i0, hi0, hz0, hz1, hz2⟩ := info_parts Tryd.infoU8
    obtain ⟨V, eV⟩ : ∃ V, w.alloc (.cells #[.int .i64 S, .slice (some ⟨g, 0, none⟩) n n] 31) = V := ⟨_, rfl⟩
    have sV : w.heap.size < V.heap.size := by rw [← eV]; simp
    have bV : Below w.heap.size w V := by rw [← eV]; exact (by repeat (first | exact Below.refl _ _ | assumption | refine below_alloc ?_ _ | refine Below.setCell ?_ (by first | omega | (simp; done) | (simp; omega)) _ | refine Below.alloc ?_ (by first | omega | (simp; done) | (simp; omega)) _ | refine Below.drew ?_))
    have bL : Blk V w.heap.size 31 2 (fun i => if i = 0 then .int .i64 S else .slice (some ⟨g, 0, none⟩) n n) := by
      rw [← eV]
      exact Blk.new w #[.int .i64 S, .slice (some ⟨g, 0, none⟩) n n] 31 _ (fun i hi => by simp at hi; match i, hi with | 0, _ => rfl | 1, _ => rfl)
    have P0 : ∀ W, Below V.heap.size V W → (W.cell? ⟨w.heap.size, 0, none⟩ = some (.int .i64 S) ∧ W.cell? ⟨w.heap.size, 1, none⟩ = some (.slice (some ⟨g, 0, none⟩) n n)) ∧ Row W g 81 2 n (two F T) ∧ Came3 W ae m P := fun W hb => ⟨⟨(bL.on hb).cell (i := 0) (by omega), (bL.on hb).cell (i := 1) (by omega)⟩, hrow.on (below_on bV hb), hev.below (below_on bV hb)⟩
    have EV : Hid _ := eV
    clear eV bL hrow hev
    go_enter Tryd.func14, Tryd.ntmps14
    go_wp2
    rw [EV.out]
    go_loopw [5, 13] (fun q i wr => ∃ k : Nat, k ≤ m ∧ i = .int .i64 k ∧ wr.ownsRow V.heap.size 5 1 q (linesB P k).length (Lib.byteCells (linesB P k)) ∧ Below V.heap.size V wr ∧ Hid ((k = 0 ∨ lokZ S n F T = 0) ∧ evsB S n P k = true ∧ (linesB P k).length ≤ 30 * k)) (fun _ i _ => m - (intOf i).toNat)
    case atStart => exact ⟨0, Nat.zero_le _, rfl, World.ownsRow_nil _ _ _ _, Below.refl _ _, ⟨.inl rfl, rfl, by simp [linesB]⟩⟩
    case round =>
      clear EV
      obtain ⟨k, hk, rfl, hI, Bw, hH⟩ := hrel
      by_cases hlt : k < m
      · have hi1 : (k : Int) < (m : Int) := by omega
        obtain ⟨⟨y0, y1⟩, ro, ca⟩ := P0 wr Bw
        obtain ⟨bE, oE, rfl, c0, c1, c2⟩ := ca.cells hlt
        obtain ⟨op, eop⟩ : ∃ op, P k 0 = op := ⟨_, rfl⟩
        obtain ⟨f, ef⟩ : ∃ f, P k 1 = f := ⟨_, rfl⟩
        obtain ⟨d, ed⟩ : ∃ d, P k 2 = d := ⟨_, rfl⟩
        rw [eop] at c0
        rw [ef] at c1
        rw [ed] at c2
        have EO : Hid (P k 0 = op ∧ P k 1 = f ∧ P k 2 = d) := ⟨eop, ef, ed⟩
        clear eop ef ed ca
        have zw : w.heap.size < wr.heap.size := by have := Bw.size; omega
        have rE := ro.alloc (.cells #[.int .i64 op, .int .i64 f, .int .i64 d] 51)
        have ke := specEventOk_any S op f d g n F T _ rE
        have bE1 : Blk (wr.alloc (.cells #[.int .i64 op, .int .i64 f, .int .i64 d] 51)) wr.heap.size 51 3 (fun i => if i = 0 then .int .i64 op else if i = 1 then .int .i64 f else .int .i64 d) := Blk.new wr #[.int .i64 op, .int .i64 f, .int .i64 d] 51 _ (fun i hi => by simp at hi; match i, hi with | 0, _ => rfl | 1, _ => rfl | 2, _ => rfl)
        have bA : Below wr.heap.size wr (wr.alloc (.cells #[.int .i64 op, .int .i64 f, .int .i64 d] 51)) := below_alloc (Below.refl _ _) _
        cases hv : evOk S n F T op f d
        · rw [hv] at ke
          have hz : Hid (wrZ S n F T P m = []) := wrZ_bad hlt (by rw [EO.out.1, EO.out.2.1, EO.out.2.2]; exact hv)
          clear hv bE1 rE ro hH
          go_wp2_with fail
          refine ke.mono ?_
          clear ke
          rintro e w4 ⟨rfl, hb4⟩
          have FIN := below_on bV (below_on Bw (below_on bA hb4))
          go_wp2
          go_ret
          exact ⟨by rw [hz.out]; rfl, FIN⟩
        · rw [hv] at ke
          simp only [evOk, Bool.and_eq_true, beq_iff_eq] at hv
          obtain ⟨hl, hb⟩ := hv
          obtain ⟨r1, r2, r3⟩ := lok_range hl
          obtain ⟨⟨o1, o2⟩, ⟨f1, f2⟩, hd⟩ := evB_range hb r3 r2
          have kl := fun W => l4line_any op f d o1 o2 f1 (by omega) hd W
          obtain ⟨L, eL⟩ : ∃ L, lineB op f d = L := ⟨_, rfl⟩
          obtain ⟨L1, eL1⟩ : ∃ L1, L ++ [10] = L1 := ⟨_, rfl⟩
          have hL := lineB_length op f d f1 (by omega)
          rw [eL] at kl hL
          have hadd : ∀ X : World, (Op.stringOp .add ⟨L.toArray⟩ ⟨#[10]⟩).run Tryd.prog X = .ok (.string ⟨L1.toArray⟩) X := fun X => by rw [← eL1]; exact run_string_add_lists X L [10] (by omega) (by simp)
          have hL1 : L1.length ≤ 30 := by rw [← eL1]; simp; omega
          have en : linesB P (k + 1) = linesB P k ++ L1 := by rw [← eL1, ← eL, linesB, EO.out.1, EO.out.2.1, EO.out.2.2]
          have hH' : Hid ((k + 1 = 0 ∨ lokZ S n F T = 0) ∧ evsB S n P (k + 1) = true ∧ (linesB P (k + 1)).length ≤ 30 * (k + 1)) := by
            refine ⟨.inr hl, ?_, ?_⟩
            · simp only [evsB, EO.out.1, EO.out.2.1, EO.out.2.2, hb, hH.out.2.1]; rfl
            · rw [en, List.length_append]; have := hH.out.2.2; omega
          have hlk : (linesB P k).length ≤ 60000 := by have := hH.out.2.2; omega
          obtain ⟨Z, eZ⟩ : ∃ Z, linesB P k = Z := ⟨_, rfl⟩
          rw [eZ] at hI hlk en
          have EN : Hid _ := en
          clear hl hb hH eL eL1 eZ en EO o1 o2 f1 f2 hd rE ro r1 r2 r3 hL
          go_wp2_with fail
          refine ke.mono ?_
          clear ke
          rintro e w4 ⟨rfl, hb4⟩
          have bE4 := bE1.on hb4
          have e0 : w4.cell? ⟨wr.heap.size, 0, none⟩ = some (.int .i64 op) := bE4.cell (i := 0) (by omega)
          have e1 : w4.cell? ⟨wr.heap.size, 1, none⟩ = some (.int .i64 f) := bE4.cell (i := 1) (by omega)
          have e2 : w4.cell? ⟨wr.heap.size, 2, none⟩ = some (.int .i64 d) := bE4.cell (i := 2) (by omega)
          have hI4 := own_on hI (below_on bA hb4)
          have B4 := below_on Bw (below_on bA hb4)
          clear hb4 bE1 bE4 hI Bw y0 y1 c0 c1 c2 bA
          go_wp2_with fail
          refine (kl _).mono ?_
          clear kl e0 e1 e2
          rintro e w5 ⟨rfl, hb5⟩
          have hI5 := own_on hI4 hb5
          have B5 := below_on B4 hb5
          have z5 := B5.size
          clear hb5 hI4 B4
          go_wp2_with (at_builtin; refine Lib.wpList_append_own_string _ rfl _ _ 63 9 rfl V.heap.size 5 i0 Tryd.underlying63 Tryd.underlying9 hi0 hz0 hz1 hz2 _ _ _ rfl hI5 ⟨L1.toArray⟩ rfl ?c3 ?c4 ?c5 ?_)
          case c3 => unfold maxLen; rw [str_size]; omega
          case c4 => rw [str_size]; omega
          case c5 => exact z5
          intro v' w6 hown' hgrow _
          have B6 : Below V.heap.size V w6 := B5.grown hgrow z5 (fun k hk => (hI5.lt k hk).1)
          have hI6 : w6.ownsRow V.heap.size 5 1 v' (linesB P (k + 1)).length (Lib.byteCells (linesB P (k + 1))) := by
            rw [EN.out, List.length_append]
            have : Lib.byteCells (Z ++ L1) = Lib.byteCells Z ++ Lib.strCells ⟨L1.toArray⟩ := by simp [Lib.byteCells, Lib.strCells]
            rw [this]
            exact hown'
          clear hown' hgrow hI5 B5
          go_wp2
          exact ⟨⟨k + 1, hlt, by simp, hI6, B6, hH'⟩, by simp [intOf]; omega⟩
      · have hi1 : ¬ (k : Int) < (m : Int) := by omega
        obtain rfl : k = m := by omega
        obtain ⟨h1, h2, h3⟩ := hH.out
        have hcv := conv_own hI
        have FIN := below_on bV Bw
        obtain ⟨ao, cap, rfl⟩ : ∃ ao cap, u5 = .slice ao (linesB P k).length cap := by
          rcases hI.2 with ⟨hv, h0⟩ | ⟨g, cap, cur, hv, _⟩
          · exact ⟨_, _, by rw [h0]; exact hv⟩
          · exact ⟨_, _, hv⟩
        by_cases hlong : 20000 < (linesB P k).length
        · have hz : Hid (wrZ S n F T P k = []) := wrZ_long hlong
          have hi2 : (20000 : Int) < ((linesB P k).length : Int) := by omega
          clear hI hH h1 h2 h3 hlong
          go_wp2
          go_ret
          exact ⟨by rw [hz.out]; rfl, FIN⟩
        · have hz : Hid (wrZ S n F T P k = linesB P k) := wrZ_good h1 (by omega) h2 (by omega)
          have hi2 : ¬ (20000 : Int) < ((linesB P k).length : Int) := by omega
          clear hI hH h1 h2 h3 hlong
          go_wp2
          go_ret
          exact ⟨by rw [hz.out]; rfl, FIN⟩

end Go.Proofs.YtlpopfhaephfaabDoor
