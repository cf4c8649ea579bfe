import Derived.Test.YtlpopfhaephfaaaDoorRN5
import Derived.Test.YtlpopfhaephfaaaDoorQT
import Derived.Test.YtlpopfhaephfaaaDoorEV2
import Derived.Test.YtlpopfhaephfaaaDoorCU2
import Derived.BigQuiet
import Derived.Lib.QuietBelow
import Derived.Deep.RegionWith
import Derived.Deep.QuietTactic
import Derived.Test.YtlpopfhaephfaaaDoorSP1
import Derived.Test.YtlpopfhaephfaaaDoorCU1
import Derived.Test.YtlpopfhaephfaaaDoorRows
import Derived.ChangeSlices
import Derived.ProofKit
import Derived.Lib.SmallJoins
import Derived.Deep.SlicePairs
import Derived.Test.YtlpopfhaephfaaaDoorCards
import Derived.Test.YtlpopfhaephfaaaDoorTie
import Derived.ChangeSame
import Derived.ChangeVars
import Derived.JoinedOf
import Derived.RowKitTokens
import Derived.LaidLaws
import Derived.LaidHandle
import Derived.Stop.LaidErr
import Derived.Stop.LaidTwo
import Derived.Stop.Joined
import Derived.SevenTiedAt
import Derived.WalkSmall
namespace Go.Proofs.YtlpopfhaephfaaaDoor
open Go.RowKit

/-- what is asked of the drawn layout: it is one -/
def DlC : Prop := ∀ (m cap : Nat) (ao : Option Addr) (C : Nat → Int) (w : World), Cod w w.heap.size ao m C → m ≤ 1048576 →
  Calls Tryd.prog 16 #[.slice ao m cap] w fun e w' => ∃ (g n : Nat) (S : Int) (F T : Nat → Int), e = .returned (.agg #[.int .i64 S, .slice (gA g) n (gC g)]) ∧ CRow w' g n F T ∧ Below w.heap.size w w'

set_option maxHeartbeats 1000000 in
theorem implBegin_none (S : Int) (g n : Nat) (F T : Nat → Int) (w : World) (hrow : CRow w g n F T) (hl : (lokZ S n F T == 0) = false) :
    Calls Tryd.prog 15 #[.agg #[.int .i64 S, .slice (gA g) n (gC g)]] w fun e w' => e = .returned (.agg #[.bool false, .slice none 0 0, .slice none 0 0]) ∧ Below w.heap.size w w' := by
  have hl' : (lokZ S n F T != 0) = true := by simpa [bne] using hl
  go_enter Tryd.func15, Tryd.ntmps15
  go_wp2_with fail
  refine (implLayoutOk_any _ _ _ F T _ ((hrow.alloc _).alloc _)).mono ?_
  rintro e w1 ⟨rfl, hb1⟩
  obtain ⟨q1, q2⟩ := bcell hb1
  have B1 := below_on (show Below w.heap.size w _ from (by repeat (first | exact Below.refl _ _ | assumption | refine below_alloc ?_ _ | refine Below.setCell ?_ (by first | omega | (simp; done) | (simp; omega)) _ | refine Below.alloc ?_ (by first | omega | (simp; done) | (simp; omega)) _ | refine Below.drew ?_))) hb1
  have l1 := hb1.size
  simp only [World.size_alloc] at l1
  go_wp2
  refine bodyPost_ret (v := .agg #[.bool false, .slice none 0 0, .slice none 0 0]) (by simp [results, Tryd.results15, go_sem, q1]) rfl ⟨rfl, ?_⟩
  exact ((B1.setCell (by first | omega | (simp; done) | (simp; omega)) _).setCell (by first | omega | (simp; done) | (simp; omega)) _).setCell (by first | omega | (simp; done) | (simp; omega)) _

theorem Tryd.fieldOk (b : Bool) (x y : Value) (W : World) : (Instr.field 39 (.agg #[.bool b, x, y]) 0).run Tryd.prog W = .ok (.bool b) W := by kernel_rfl

def oneP (_ j : Nat) : Int := if j = 0 then 5 else 0

set_option maxRecDepth 100000 in
set_option maxHeartbeats 8000000 in
theorem spoilt_small (hd : DlC) (a : Nat → Addr) (m1 c1 : Nat) (a1 : Option Addr) (C1 : Nat → Int) (w : World) (ha : Snt w a) (h1 : Cod w w.heap.size a1 m1 C1) (hm1 : m1 ≤ 1048576) :
    Calls Tryd.prog 5 #[.slice a1 m1 c1] w fun e w' => e = .returned (.bool true) ∧ Below w.heap.size w w' := by
  have i1 : ¬ (1048576 : Int) < m1 := by omega
  have hfd := Tryd.fieldOk
  go_enter Tryd.func5, Tryd.ntmps5
  go_wp2_with fail
  refine (hd m1 c1 a1 C1 w h1 hm1).mono ?_
  rintro _ w1 ⟨g, n, S, F, T, rfl, R1, B1⟩
  obtain ⟨V, eV⟩ : ∃ V, w1.alloc (.cells #[.int .i64 S, .slice (gA g) n (gC g)] 25) = V := ⟨_, rfl⟩
  have lay : Box2 V w1.heap.size 25 (.int .i64 S) (.slice (gA g) n (gC g)) := by rw [← eV]; exact Box2.lay _ _ _ _
  have row : CRow V g n F T := by rw [← eV]; exact R1.alloc _
  have bel : Below w.heap.size w V := by rw [← eV]; exact below_alloc B1 _
  obtain ⟨lb, elb⟩ : ∃ lb, w1.heap.size = lb := ⟨_, rfl⟩
  rw [elb] at lay
  have EV : Hid _ := eV
  have ELB : Hid _ := elb
  have ki := implLayoutOk_any S g n F T V row
  have ks := fun W hW => specLayoutOk_any S g n F T W (CRow.on row hW)
  have kr := fun (h : ¬ lokZ S n F T = 0) W m ce ae (hm : m ≤ 1048576) hW => implRun_bad S g n m ce ae F T W hm (CRow.on row hW) (fun h' => h h'.1)
  have kt := fun (h : ¬ lokZ S n F T = 0) W m ce ae (hm : m ≤ 1048576) hW => implTruth_bad S g n m ce ae F T W hm (CRow.on row hW) (fun h' => h h'.1)
  have kb := fun (h : ¬ lokZ S n F T = 0) W hW => implBegin_none S g n F T W (CRow.on row hW) (by simp [h])
  have ke : ∀ (h : ¬ lokZ S n F T = 0) W, Below V.heap.size V W → Calls Tryd.prog 19 #[.agg #[.int .i64 S, .slice (gA g) n (gC g)], .agg #[.int .i64 5, .int .i64 0, .int .i64 0]] W fun e w' => e = .returned (.bool false) ∧ Below W.heap.size W w' := fun h W hW => by
    have := implEventOk_any S 5 0 0 g n F T W (CRow.on row hW)
    unfold evOk at this
    rwa [show (lokZ S n F T == 0) = false by simp [h], Bool.false_and] at this
  have kh : ∀ (h : ¬ lokZ S n F T = 0) W m ce ae, m ≤ 1048576 → Below V.heap.size V W → Calls Tryd.prog 7 #[.agg #[.int .i64 S, .slice (gA g) n (gC g)], .slice ae m ce] W fun e w' => e = .returned (.bool false) ∧ Below W.heap.size W w' := fun h W m ce ae hm hW => by
    have bX : Below W.heap.size W (W.alloc (.cells #[.int .i64 S, .slice (gA g) n (gC g)] 25)) := below_alloc (Below.refl _ _) _
    have sW : Snt W a := ha.on (below_on bel hW)
    refine (honest_of S g n (.slice ae m ce) a W _ (fun o => o = some 0) sW rfl ((lie_bad S g n m ce ae F T a _ hm ((CRow.on row hW).on bX) (sW.on bX) (fun h' => h h'.1)).mono ?_)).mono ?_
    · rintro _ w' ⟨rfl, hb⟩
      exact ⟨some 0, rfl, fun i hi => by cases hi; omega, rfl, hb⟩
    · rintro _ w' ⟨o, rfl, rfl, hb⟩
      exact ⟨rfl, hb⟩
  have ROW : Hid _ := row
  have LAY : Hid _ := lay
  have BEL : Hid _ := bel
  by_cases hl : lokZ S n F T = 0
  · rw [hl] at ki ks
    have OK : Hid (lokZ S n F T = 0) := hl
    obtain ⟨r1, r2, r3⟩ := lok_range hl
    obtain ⟨ns, ens⟩ : ∃ ns : Nat, (ns : Int) = S := ⟨S.toNat, by omega⟩
    have ENS : Hid _ := ens
    obtain ⟨y0, y1⟩ := lay.cells
    have ly := lay.lt
    clear kr kt kb ke kh hl R1 B1 h1 hd eV elb lay row bel ens
    go_upto_region 4 with fail
    rw [EV.out, ELB.out]
    go_wp2_with fail
    refine ki.mono ?_
    rintro _ w2 ⟨rfl, b2⟩
    clear y0 y1 ly ki EV ELB
    obtain ⟨y0, y1⟩ := (Box2.on LAY.out b2).cells
    have ly := (Box2.on LAY.out b2).lt
    go_wp2_with fail
    refine (ks w2 b2).mono ?_
    rintro _ w3 ⟨rfl, b3⟩
    have b3 := below_on b2 b3
    clear y0 y1 ly ks b2
    obtain ⟨V3, eV3⟩ : ∃ V, w3.alloc (.cells #[.int .i64 5, .int .i64 0, .int .i64 0] 56) = V := ⟨_, rfl⟩
    have bV3 : Below V.heap.size V V3 := by rw [← eV3]; exact below_alloc b3 _
    have evt : SlF V3 56 3 w3.heap.size V3.heap.size (.slice (some ⟨w3.heap.size, 0, none⟩) 1 1) 1 (evs oneP) := by
      rw [← eV3]
      refine ⟨_, _, rfl, .inr ⟨w3.heap.size, 3, _, rfl, Nat.le_refl _, by simp, by omega, Blk.lay3 w3 _ _ _ _, fun i hi j hj => ?_⟩⟩
      obtain rfl : i = 0 := by omega
      match j, hj with
      | 0, _ => rfl
      | 1, _ => rfl
      | 2, _ => rfl
    have kr := implRun_ok S g n _ _ 1 ns F T oneP _ V3 (CRow.on ROW.out bV3) evt OK.out ENS.out (by omega)
    obtain ⟨y0, y1⟩ := (Box2.on LAY.out bV3).cells
    have ly := (Box2.on LAY.out bV3).lt
    have EV3 : Hid _ := eV3
    have BV3 : Hid _ := bV3
    obtain ⟨q3, eq3⟩ : ∃ q, w3.heap.size = q := ⟨_, rfl⟩
    rw [eq3] at kr
    have EQ3 : Hid _ := eq3
    clear eV3 bV3 evt b3 eq3
    go_upto_region 8 with fail
    rw [EV3.out, EQ3.out]
    go_wp2_with fail
    refine kr.mono ?_
    rintro _ w4 ⟨u, rfl, D, b4⟩
    obtain ⟨_, _, _, ⟨ar, cr, er, _⟩, _⟩ := id D
    subst er
    have b4 := below_on BV3.out b4
    clear y0 y1 ly kr D EV3 EQ3
    obtain ⟨y0, y1⟩ := (Box2.on LAY.out b4).cells
    have ly := (Box2.on LAY.out b4).lt
    have kb := implBegin_nice S g n ns F T w4 (CRow.on ROW.out b4) OK.out ENS.out
    go_wp2_with fail
    refine kb.mono ?_
    rintro _ w5 ⟨as0, cs0, ab0, cb0, rfl, _, b5⟩
    have FIN := below_on (below_on BEL.out b4) b5
    clear y0 y1 ly kb
    go_wp2
    go_ret
    exact ⟨rfl, FIN⟩
  · obtain ⟨z, ez⟩ : ∃ z, lokZ S n F T = z := ⟨_, rfl⟩
    have kr := kr hl
    have kt := kt hl
    have kb := kb hl
    have ke := ke hl
    have kh := kh hl
    rw [ez] at ki ks hl
    have hz' : (z == 0) = false := by simp [hl]
    have KR : Hid _ := kr
    have KT : Hid _ := kt
    have KB : Hid _ := kb
    have KE : Hid _ := ke
    have KH : Hid _ := kh
    obtain ⟨y0, y1⟩ := lay.cells
    have ly := lay.lt
    clear kr kt kb ke kh R1 B1 h1 hd eV elb lay row bel ez
    go_upto_region 4 with fail
    rw [EV.out, ELB.out]
    go_wp2_with fail
    refine ki.mono ?_
    rintro _ w2 ⟨rfl, b2⟩
    clear y0 y1 ly ki EV ELB
    obtain ⟨y0, y1⟩ := (Box2.on LAY.out b2).cells
    have ly := (Box2.on LAY.out b2).lt
    go_wp2_with fail
    refine (ks w2 b2).mono ?_
    rintro _ w3 ⟨rfl, b3⟩
    have b3 := below_on b2 b3
    clear y0 y1 ly ks b2
    obtain ⟨V3, eV3⟩ : ∃ V, w3.alloc (.cells #[.int .i64 5, .int .i64 0, .int .i64 0] 56) = V := ⟨_, rfl⟩
    have bV3 : Below V.heap.size V V3 := by rw [← eV3]; exact below_alloc b3 _
    obtain ⟨q3, eq3⟩ : ∃ q, w3.heap.size = q := ⟨_, rfl⟩
    have n0 : V3.cell? ⟨q3, 0, none⟩ = some (.int .i64 5) := by rw [← eV3, ← eq3]; simp
    have n1 : V3.cell? ⟨q3, 1, none⟩ = some (.int .i64 0) := by rw [← eV3, ← eq3]; simp
    have n2 : V3.cell? ⟨q3, 2, none⟩ = some (.int .i64 0) := by rw [← eV3, ← eq3]; simp
    obtain ⟨y0, y1⟩ := (Box2.on LAY.out bV3).cells
    have EV3 : Hid _ := eV3
    have EQ3 : Hid _ := eq3
    have kn0 := cell_regrown n0
    have kn1 := cell_regrown n1
    have kn2 := cell_regrown n2
    have ky0 := cell_regrown y0
    have ky1 := cell_regrown y1
    have cr : ∀ dd os, _ := fun dd os => Calls.regrown_of (KR.out (Sort.grow (redrawn V3 dd) os) 1 1 (some ⟨q3, 0, none⟩) (by omega) (below_on bV3 (below_regrown V3 dd os)))
    have ct : ∀ dd os, _ := fun dd os => Calls.regrown_of (KT.out (Sort.grow (redrawn V3 dd) os) 1 1 (some ⟨q3, 0, none⟩) (by omega) (below_on bV3 (below_regrown V3 dd os)))
    have cb : ∀ dd os, _ := fun dd os => Calls.regrown_of (KB.out (Sort.grow (redrawn V3 dd) os) (below_on bV3 (below_regrown V3 dd os)))
    have ce : ∀ dd os, _ := fun dd os => Calls.regrown_of (KE.out (Sort.grow (redrawn V3 dd) os) (below_on bV3 (below_regrown V3 dd os)))
    have ch : ∀ dd os, _ := fun dd os => Calls.regrown_of (KH.out (Sort.grow (redrawn V3 dd) os) 1 1 (some ⟨q3, 0, none⟩) (by omega) (below_on bV3 (below_regrown V3 dd os)))
    have FIN : Hid (Below w.heap.size w V3) := below_on BEL.out bV3
    clear eV3 eq3 n0 n1 n2 y0 y1 bV3 b3 KR KT KB KE KH
    go_upto_region 8 with fail
    rw [EV3.out, EQ3.out]
    go_upto_region 10 with fail
    refine wp_region_quiet_below (by kernel_rfl) (by kernel_rfl) ?_
    repeat (go_big_quiet_step (first | with_reducible exact cr _ _ | with_reducible exact cb _ _ | with_reducible exact ce _ _ | with_reducible exact ct _ _ | with_reducible exact ch _ _))
    refine wpQuiet_nil ?_
    intro _ hw'
    obtain ⟨⟨dq, osq⟩, hw''⟩ := hw'
    have hBq := below_regrown V3 dq osq
    subst hw''
    have FINq := below_on FIN.out hBq
    clear cr ct cb ce ch kn0 kn1 kn2 ky0 ky1 hBq
    generalize Sort.grow (redrawn V3 dq) osq = wq at *
    go_wp2
    go_ret
    exact ⟨rfl, FINq⟩

end Go.Proofs.YtlpopfhaephfaaaDoor

namespace Go.Proofs.YtlpopfhaephfaaaDoor
open Go.RowKit

/-- what stands ahead of a round -/
structure DlI (w W : World) (m cap : Nat) (ao : Option Addr) (C : Nat → Int) (p lb : Nat) (k : Nat) (S : Int) (g n : Nat) (F T : Nat → Int) (c : Cu) : Prop where
  cur : Cur W w.heap.size p ao m cap C c
  pos : c.pos ≤ 100 + 4 * k
  rng : -1000 ≤ S ∧ S ≤ 1000 ∧ n ≤ 121
  row : CRow W g n F T
  own : ∀ ad, gA g = some ad → p + 1 ≤ ad.block
  lay : Box2 W lb 25 (.int .i64 S) (.slice (gA g) n (gC g))
  res : Box2 W w.heap.size 25 (.int .i64 0) (.slice none 0 0)
  bel : Below w.heap.size w W
  ple : w.heap.size < p ∧ p < lb

theorem lay_set {W : World} {lb : Nat} {x y : Value} (h : Box2 W lb 25 x y) (x' y' : Value) : Box2 ((W.setCell ⟨lb, 0, none⟩ x').setCell ⟨lb, 1, none⟩ y') lb 25 x' y' :=
  ((Blk.set h 0 x').set 1 y').congr (fun i hi => by match i, hi with | 0, _ => rfl | 1, _ => rfl)

set_option maxRecDepth 100000 in
set_option maxHeartbeats 8000000 in
theorem drawLayoutOk_any : DlC := by
  intro m cap ao C w hc hm
  obtain ⟨W0, eW0⟩ : ∃ W, (w.alloc (.cells #[.int .i64 0, .slice none 0 0] 25)).alloc (.cells #[.slice ao m cap, .int .i64 0, .int .u64 0] 61) = W := ⟨_, rfl⟩
  have b0 : Below w.heap.size w W0 := by rw [← eW0]; exact (by repeat (first | exact Below.refl _ _ | assumption | refine below_alloc ?_ _ | refine Below.setCell ?_ (by first | omega | (simp; done) | (simp; omega)) _ | refine Below.alloc ?_ (by first | omega | (simp; done) | (simp; omega)) _ | refine Below.drew ?_))
  have cur0 : Cur W0 w.heap.size (w.heap.size + 1) ao m cap C ⟨0, 0⟩ := by
    refine ⟨?_, hc.below b0, by omega, Int.le_refl _, by unfold maxLen; omega⟩
    rw [← eW0]
    have := Box3.lay (w.alloc (.cells #[.int .i64 0, .slice none 0 0] 25)) (.slice ao m cap) (.int .i64 0) (.int .u64 0) 61
    rwa [World.size_alloc] at this
  have res0 : Box2 W0 w.heap.size 25 (.int .i64 0) (.slice none 0 0) := by rw [← eW0]; exact (Box2.lay w _ _ _).alloc _
  have sz0 : W0.heap.size = w.heap.size + 2 := by rw [← eW0, World.size_alloc, World.size_alloc]
  have kl := layout_own w.heap.size (w.heap.size + 1) m cap ao C ⟨0, 0⟩ W0 cur0 (by show (0 : Nat) < 1000; omega)
  obtain ⟨s1, s2, s3⟩ := lyS_range C m ⟨0, 0⟩
  obtain ⟨z1, z2, z3⟩ := lyZ_facts C m ⟨0, 0⟩
  obtain ⟨S, eS⟩ : ∃ S, lyS C m ⟨0, 0⟩ = S := ⟨_, rfl⟩
  obtain ⟨Z, eZ⟩ : ∃ Z, lyZ C m ⟨0, 0⟩ = Z := ⟨_, rfl⟩
  rw [eS, eZ] at kl
  rw [eS] at s2 s3
  rw [eZ] at z1 z2
  obtain ⟨p, ep⟩ : ∃ p, w.heap.size + 1 = p := ⟨_, rfl⟩
  rw [ep] at kl cur0
  have EW0 : Hid _ := eW0
  have EP : Hid _ := ep
  have SZ0 : Hid _ := sz0
  have B0 : Hid _ := b0
  have RES0 : Hid _ := res0
  have z1' : Z.1.pos ≤ 12 := by simpa using z1
  clear eW0 ep sz0 b0 res0 s1 z1 z3 eS eZ hc
  go_enter Tryd.func16, Tryd.ntmps16
  go_upto_region 2 with fail
  rw [EW0.out, EP.out]
  go_wp2_with fail
  refine kl.mono ?_
  rintro _ w1 ⟨g, rfl, R1, cu1, t1, hlo⟩
  obtain ⟨V, eV⟩ : ∃ V, w1.alloc (.cells #[.int .i64 (S : Int), .slice (gA g) Z.2.length (gC g)] 25) = V := ⟨_, rfl⟩
  have bV : Below w1.heap.size w1 V := by rw [← eV]; exact below_alloc (Below.refl _ _) _
  have lay1 : Box2 V w1.heap.size 25 (.int .i64 (S : Int)) (.slice (gA g) Z.2.length (gC g)) := by rw [← eV]; exact Box2.lay _ _ _ _
  have b1 : Below w.heap.size w w1 := Below.trans B0.out (t1.below (by have := EP.out; omega) (Below.size B0.out))
  have hp1 := cu1.lt
  obtain ⟨lb, elb⟩ : ∃ lb, w1.heap.size = lb := ⟨_, rfl⟩
  rw [elb] at lay1 hp1
  have I1 : DlI w V m cap ao C p lb 0 (S : Int) g Z.2.length (fstF Z.2) (sndF Z.2) Z.1 := by
    refine ⟨cu1.on bV, by omega, ⟨by omega, by omega, by omega⟩, R1.on bV, fun ad had => ?_, lay1, (Box2.turned RES0.out t1 (.inl (by decide))).on bV, below_on b1 bV, by have := EP.out; omega, hp1⟩
    have h1 := hlo ad had
    have h2 := SZ0.out
    have h3 := EP.out
    omega
  have EV : Hid _ := eV
  have ELB : Hid _ := elb
  have r3 := pk_range C m Z.1 3
  have r3' := r3.2 (by omega)
  have p3 := pk_pos C m Z.1 3
  have k3 := pick_any w.heap.size p m cap ao C Z.1 3 V I1.cur (by omega) (by omega)
  obtain ⟨N, eN⟩ : ∃ N : Nat, pkV C m Z.1 3 = (N : Int) := ⟨_, (Int.toNat_of_nonneg r3.1).symm⟩
  obtain ⟨c0, ec0⟩ : ∃ x, pkC C m Z.1 3 = x := ⟨_, rfl⟩
  rw [eN] at r3' k3
  rw [ec0] at p3 k3
  have hN : N < 3 := by omega
  clear R1 cu1 t1 hlo eV bV lay1 b1 hp1 elb kl r3 eN ec0 EW0 SZ0 B0 RES0 cur0
  go_upto_region 3 with fail
  rw [EV.out, ELB.out]
  go_wp2_with fail
  refine k3.mono ?_
  rintro _ w2 ⟨rfl, cu2, t2⟩
  have I2 : DlI w w2 m cap ao C p lb 1 (S : Int) g Z.2.length (fstF Z.2) (sndF Z.2) c0 :=
    ⟨cu2, by omega, I1.rng, I1.row.turned t2 (by decide), I1.own, I1.lay.turned t2 (.inl (by decide)), I1.res.turned t2 (.inl (by decide)), Below.trans I1.bel (t2.below (Nat.le_of_lt I1.ple.1) (Below.size I1.bel)), I1.ple⟩
  clear I1 cu2 t2 k3 EV ELB EP
  go_wp2
  go_loopw [5] (fun i wr => ∃ (k : Nat) (S : Int) (g n : Nat) (F T : Nat → Int) (c : Cu), k ≤ N ∧ i = .int .i64 ((N : Int) - k) ∧ DlI w wr m cap ao C p lb (k + 1) S g n F T c) (fun i _ => (intOf i).toNat)
  case atStart => exact ⟨0, _, _, _, _, _, _, Nat.zero_le _, by simp, I2⟩
  case round =>
    clear I2
    obtain ⟨k, S, g, n, F, T, c, hk, rfl, I⟩ := hrel
    obtain ⟨l0, l1⟩ := I.lay.cells
    obtain ⟨f0, f1⟩ := I.lay.frozen
    have llb := I.lay.lt
    by_cases hlt : k < N
    · have hi1 : (k : Int) < (N : Int) := by omega
      have hpw := I.cur.lt
      have ks := spoil_any w.heap.size p m cap (p + 1) ao C c S g n F T wr I.cur (by have := I.pos; omega) I.rng I.row I.own (by omega) (by omega)
      have IH : Hid (DlI w wr m cap ao C p lb (k + 1) S g n F T c) := I
      clear I
      go_wp2_with fail
      refine ks.mono ?_
      rintro _ w3 ⟨S', g', n', F', T', c', rfl, rng', row', own', cu', pos', tur'⟩
      have I := IH.out
      have lay3 := I.lay.turned tur' (.inl (by unfold isSp; decide))
      have res3 := I.res.turned tur' (.inl (by unfold isSp; decide))
      have bel3 : Below w.heap.size w w3 := Below.trans I.bel (tur'.below (Nat.le_of_lt I.ple.1) (Below.size I.bel))
      have hwl : w.heap.size < lb := Nat.lt_trans I.ple.1 I.ple.2
      have NX : Hid (DlI w ((w3.setCell ⟨lb, 0, none⟩ (.int .i64 S')).setCell ⟨lb, 1, none⟩ (.slice (gA g') n' (gC g'))) m cap ao C p lb (k + 1 + 1) S' g' n' F' T' c') := by
        refine ⟨(cu'.set_other (a := ⟨lb, 0, none⟩) I.ple.2 _).set_other (a := ⟨lb, 1, none⟩) I.ple.2 _, by have := I.pos; omega, rng', row'.turned (Turned.of_set2 lay3 _ _) (by decide), own', lay_set lay3 _ _, ?_, ?_, I.ple⟩
        · exact (res3.set_other (a := ⟨lb, 0, none⟩) (show lb ≠ w.heap.size by omega) _).set_other (a := ⟨lb, 1, none⟩) (show lb ≠ w.heap.size by omega) _
        · exact (bel3.setCell (show w.heap.size ≤ lb by omega) _).setCell (show w.heap.size ≤ lb by omega) _
      clear l0 l1 f0 f1 llb
      obtain ⟨l0, l1⟩ := lay3.cells
      obtain ⟨f0, f1⟩ := lay3.frozen
      have llb := lay3.lt
      clear I IH lay3 res3 bel3 row' own' cu' tur' ks pos'
      go_wp2
      go_roundw
      case rel => exact ⟨k + 1, S', g', n', F', T', c', by omega, by go_num, NX.out⟩
      case measure => simp [intOf] <;> omega
    · have hkN : k = N := by omega
      subst hkN
      have hi1 : ¬ (0 : Int) < 0 := by omega
      obtain ⟨r0, r1⟩ := I.res.cells
      obtain ⟨r2, r3⟩ := I.res.frozen
      have lr := I.res.lt
      have hne : ¬ w.heap.size = lb := by have := I.ple; omega
      have hne' : ¬ lb = w.heap.size := by have := I.ple; omega
      have FR : Hid (CRow ((wr.setCell ⟨w.heap.size, 0, none⟩ (.int .i64 S)).setCell ⟨w.heap.size, 1, none⟩ (.slice (gA g) n (gC g))) g n F T) := I.row.turned (Turned.of_set2 I.res _ _) (by decide)
      have FB : Hid (Below w.heap.size w ((wr.setCell ⟨w.heap.size, 0, none⟩ (.int .i64 S)).setCell ⟨w.heap.size, 1, none⟩ (.slice (gA g) n (gC g)))) := (I.bel.setCell (Nat.le_refl _) _).setCell (Nat.le_refl _) _
      clear I
      go_wp2
      exact bodyPost_ret (v := .agg #[.int .i64 S, .slice (gA g) n (gC g)]) (by simp [results, Tryd.results16, go_sem, r0, r1]) rfl ⟨g, n, ⟨S, rfl⟩, ⟨F, T, FR.out⟩, FB.out⟩

theorem spoilt_all (a : Nat → Addr) (m1 c1 : Nat) (a1 : Option Addr) (C1 : Nat → Int) (w : World) (ha : Snt w a) (h1 : Cod w w.heap.size a1 m1 C1) (hm1 : m1 ≤ 1048576) :
    Calls Tryd.prog 5 #[.slice a1 m1 c1] w fun e w' => e = .returned (.bool true) ∧ Below w.heap.size w w' := spoilt_small drawLayoutOk_any a m1 c1 a1 C1 w ha h1 hm1

end Go.Proofs.YtlpopfhaephfaaaDoor

namespace Go.Proofs.YtlpopfhaephfaaaDoor
open Go.ChangeShapes Go.WideShapes Go.ChangeAt Go.RowKit Go.Joins

theorem Tryd.ownD : ownKnob Tryd.prog.godebug = none := by kernel_rfl
theorem Tryd.laidD : laidOutB Tryd.prog = true := by kernel_rfl
theorem Tryd.cellsU8 : Tryd.prog.cellsOf 5 = 1 := by kernel_rfl

theorem u8_wf {n : Int} (h : (Lit.int .u8 n).wf = true) : 0 ≤ n ∧ n < 256 := by
  unfold Lit.wf at h
  simp only [Bool.and_eq_true, decide_eq_true_eq] at h
  have h1 : IntKind.u8.min = 0 := by decide
  have h2 : IntKind.u8.max = 255 := by decide
  rw [h1, h2] at h
  omega

theorem cod_of_trod {H : Type} {enc : TypeId × Value → H} {W : World} {base : Nat} {spare : Nat → Bool} {held : Bool} {fuel : Nat} {c : Value} {x : DataW H × List MemPlace} (h : DataW.trod enc Tryd.prog W base spare held fuel 22 [c] = some x) :
    ∃ (ao : Option Addr) (n cap : Nat) (C : Nat → Int), c = .slice ao n cap ∧ n ≤ maxLen ∧ Cod W W.heap.size ao n C := by
  rcases open_ints Tryd.underlying22 Tryd.underlying5 Tryd.cellsU8 h with ⟨hc, _⟩ | ⟨a, len, cap, zs, hc, _, hl, hm, hz, _, hcell, hwf⟩
  · simp only [List.cons.injEq, and_true] at hc
    exact ⟨none, 0, 0, fun _ => 0, hc, Nat.zero_le _, .inl rfl⟩
  · simp only [List.cons.injEq, and_true] at hc
    refine ⟨some a, len, cap, fun i => zs.getD i 0, hc, Nat.le_trans hl hm, ?_⟩
    have hlz : len ≤ zs.length := by rw [hz]; split <;> omega
    rcases Nat.eq_zero_or_pos len with h0 | h0
    · exact .inl h0
    · right
      obtain ⟨b, off, spot⟩ := a
      have hs : spot = none := by simpa [Addr.add] using World.cell?_spot (hcell 0 (by omega))
      subst hs
      refine ⟨b, off, rfl, ?_, fun i hi => ⟨?_, ?_⟩⟩
      · have := World.block_lt_of_cell? W _ (hcell 0 (by omega))
        simpa [Addr.add] using this
      · have := hcell i (by omega)
        have e : (⟨b, off, none⟩ : Addr).add i = ⟨b, off + i, none⟩ := by simp [Addr.add]
        rw [e] at this
        exact this
      · have hi' : i < zs.length := by omega
        have e : zs.getD i 0 = zs[i] := by rw [List.getD_eq_getElem?_getD, List.getElem?_eq_getElem hi']; rfl
        show 0 ≤ zs.getD i 0 ∧ zs.getD i 0 < 256
        rw [e]
        exact u8_wf (hwf _ (List.getElem_mem hi'))

theorem cod_of {H : Type} {enc : TypeId × Value → H} {W : World} {base : Nat} {spare : Nat → Bool} {held : Bool} {ao : Option Addr} {n cap : Nat} {d : DataW H} {p : List MemPlace} (h : DataW.Trod enc Tryd.prog W base spare held 22 (.slice ao n cap) d p) :
    n ≤ maxLen ∧ ∃ C, Cod W W.heap.size ao n C := by
  obtain ⟨fuel, hf⟩ := h
  obtain ⟨ao', n', cap', C, e, hm, hc⟩ := cod_of_trod (c := .slice ao n cap) hf
  simp only [Value.slice.injEq] at e
  obtain ⟨rfl, rfl, rfl⟩ := e
  exact ⟨hm, C, hc⟩

end Go.Proofs.YtlpopfhaephfaaaDoor

namespace Go.Proofs.YtlpopfhaephfaaaDoor
open Go.ChangeShapes Go.WideShapes Go.ChangeAt Go.RowKit Go.Joins

theorem Tryd.gE0 : Tryd.prog.globalNamed "loop.example/treadle/impl.errNoRun" = some 0 := by kernel_rfl
theorem Tryd.gE1 : Tryd.prog.globalNamed "loop.example/treadle/impl.errNoEvent" = some 1 := by kernel_rfl
theorem Tryd.gE2 : Tryd.prog.globalNamed "loop.example/treadle/impl.errSomebody" = some 2 := by kernel_rfl
theorem Tryd.gE3 : Tryd.prog.globalNamed "loop.example/treadle/impl.errBelow" = some 3 := by kernel_rfl
theorem Tryd.gT0 : (Tryd.prog.globals[0]?).map (·.type) = some 65 := by kernel_rfl
theorem Tryd.gT1 : (Tryd.prog.globals[1]?).map (·.type) = some 65 := by kernel_rfl
theorem Tryd.gT2 : (Tryd.prog.globals[2]?).map (·.type) = some 65 := by kernel_rfl
theorem Tryd.gT3 : (Tryd.prog.globals[3]?).map (·.type) = some 65 := by kernel_rfl
theorem Tryd.esCells : Tryd.prog.cellsOf 180 = 1 := by kernel_rfl
theorem Tryd.stCells : Tryd.prog.cellsOf 9 = 1 := by kernel_rfl
theorem esStar : "*" ++ "errors.errorString" = "*errors.errorString" := by decide
theorem Tryd.esRow (u : TypeId) (h : Tryd.prog.typeName? 3 u = some "*errors.errorString") : u = 155 :=
  typeName_ptr_named (nm := "errors.errorString") (by rw [esStar]; kernel_rfl) (by kernel_rfl) (by decide) u (by rw [esStar]; exact h)

/-- the fourA errors' addresses -/
def fourA (a0 a1 a2 a3 : Addr) : Nat → Addr
  | 0 => a0
  | 1 => a1
  | 2 => a2
  | _ => a3

set_option maxRecDepth 100000 in
theorem snt_of_laid {W : World} (h : laidMet Tryd.prog [("loop.example/treadle/impl.errNoRun", Rows.laid_loop_example_treadle_impl_errNoRun), ("loop.example/treadle/impl.errNoEvent", Rows.laid_loop_example_treadle_impl_errNoEvent), ("loop.example/treadle/impl.errSomebody", Rows.laid_loop_example_treadle_impl_errSomebody), ("loop.example/treadle/impl.errBelow", Rows.laid_loop_example_treadle_impl_errBelow)] W) :
    ∃ a0 a1 a2 a3 : Addr, W.var? Tryd.prog "loop.example/treadle/impl.errNoRun" = some #[.iface 155 (.pointer (some a0))] ∧ W.var? Tryd.prog "loop.example/treadle/impl.errNoEvent" = some #[.iface 155 (.pointer (some a1))] ∧
      W.var? Tryd.prog "loop.example/treadle/impl.errSomebody" = some #[.iface 155 (.pointer (some a2))] ∧ W.var? Tryd.prog "loop.example/treadle/impl.errBelow" = some #[.iface 155 (.pointer (some a3))] ∧ Snt W (fourA a0 a1 a2 a3) := by
  obtain ⟨ps, ⟨g0, t0, cs0, f0, p0, q0, hg0, ht0, hv0, hd0, ⟨g1, t1, cs1, f1, p1, q1, hg1, ht1, hv1, hd1, ⟨g2, t2, cs2, f2, p2, q2, hg2, ht2, hv2, hd2, ⟨g3, t3, cs3, f3, p3, q3, hg3, ht3, hv3, hd3, hq3, e3⟩, e2⟩, e1⟩, e0⟩, hnd, hrows⟩ := h
  obtain rfl := Option.some.inj (Tryd.gE0.symm.trans hg0)
  obtain rfl := Option.some.inj (Tryd.gE1.symm.trans hg1)
  obtain rfl := Option.some.inj (Tryd.gE2.symm.trans hg2)
  obtain rfl := Option.some.inj (Tryd.gE3.symm.trans hg3)
  obtain rfl := Option.some.inj (Tryd.gT0.symm.trans ht0)
  obtain rfl := Option.some.inj (Tryd.gT1.symm.trans ht1)
  obtain rfl := Option.some.inj (Tryd.gT2.symm.trans ht2)
  obtain rfl := Option.some.inj (Tryd.gT3.symm.trans ht3)
  have hq3' : q3 = [] := hq3
  subst hq3'
  subst e3
  subst e2
  subst e1
  subst e0
  obtain ⟨l0⟩ := cs0
  obtain ⟨l1⟩ := cs1
  obtain ⟨l2⟩ := cs2
  obtain ⟨l3⟩ := cs3
  have ok0 : ∀ u v, l0 = [.iface u v] → Value.okWide Tryd.prog W .any 0 u v := fun u v e => by
    subst e
    exact (hrows 0 0 (by simp [MemPlace.row])).2 u v (by simpa using World.var?_cell hg0 hv0 0)
  have ok1 : ∀ u v, l1 = [.iface u v] → Value.okWide Tryd.prog W .any 0 u v := fun u v e => by
    subst e
    exact (hrows 1 0 (by simp [MemPlace.row])).2 u v (by simpa using World.var?_cell hg1 hv1 0)
  have ok2 : ∀ u v, l2 = [.iface u v] → Value.okWide Tryd.prog W .any 0 u v := fun u v e => by
    subst e
    exact (hrows 2 0 (by simp [MemPlace.row])).2 u v (by simpa using World.var?_cell hg2 hv2 0)
  have ok3 : ∀ u v, l3 = [.iface u v] → Value.okWide Tryd.prog W .any 0 u v := fun u v e => by
    subst e
    exact (hrows 3 0 (by simp [MemPlace.row])).2 u v (by simpa using World.var?_cell hg3 hv3 0)
  obtain ⟨a0, s0, rfl, hc0, hs0, hz0, rfl⟩ := errorString_of_trod Tryd.underlying65 Tryd.esRow Tryd.underlying155 Tryd.underlying180 rfl rfl Tryd.underlying9 Tryd.esCells Tryd.stCells hd0 ok0
  obtain ⟨a1, s1, rfl, hc1, hs1, hz1, rfl⟩ := errorString_of_trod Tryd.underlying65 Tryd.esRow Tryd.underlying155 Tryd.underlying180 rfl rfl Tryd.underlying9 Tryd.esCells Tryd.stCells hd1 ok1
  obtain ⟨a2, s2, rfl, hc2, hs2, hz2, rfl⟩ := errorString_of_trod Tryd.underlying65 Tryd.esRow Tryd.underlying155 Tryd.underlying180 rfl rfl Tryd.underlying9 Tryd.esCells Tryd.stCells hd2 ok2
  obtain ⟨a3, s3, rfl, hc3, hs3, hz3, rfl⟩ := errorString_of_trod Tryd.underlying65 Tryd.esRow Tryd.underlying155 Tryd.underlying180 rfl rfl Tryd.underlying9 Tryd.esCells Tryd.stCells hd3 ok3
  have b0 := (hrows a0.block a0.off (by simp [MemPlace.row])).1
  have b1 := (hrows a1.block a1.off (by simp [MemPlace.row])).1
  have b2 := (hrows a2.block a2.off (by simp [MemPlace.row])).1
  have b3 := (hrows a3.block a3.off (by simp [MemPlace.row])).1
  have c0 : W.cell? ⟨0, 0, none⟩ = some (.iface 155 (.pointer (some a0))) := by simpa using World.var?_cell hg0 hv0 0
  have c1 : W.cell? ⟨1, 0, none⟩ = some (.iface 155 (.pointer (some a1))) := by simpa using World.var?_cell hg1 hv1 0
  have c2 : W.cell? ⟨2, 0, none⟩ = some (.iface 155 (.pointer (some a2))) := by simpa using World.var?_cell hg2 hv2 0
  have c3 : W.cell? ⟨3, 0, none⟩ = some (.iface 155 (.pointer (some a3))) := by simpa using World.var?_cell hg3 hv3 0
  have n01 : a0 ≠ a1 := by rintro rfl; simp [MemPlace.row] at hnd
  have n02 : a0 ≠ a2 := by rintro rfl; simp [MemPlace.row] at hnd
  have n03 : a0 ≠ a3 := by rintro rfl; simp [MemPlace.row] at hnd
  have n12 : a1 ≠ a2 := by rintro rfl; simp [MemPlace.row] at hnd
  have n13 : a1 ≠ a3 := by rintro rfl; simp [MemPlace.row] at hnd
  have n23 : a2 ≠ a3 := by rintro rfl; simp [MemPlace.row] at hnd
  refine ⟨a0, a1, a2, a3, hv0, hv1, hv2, hv3, ⟨fun i hi => ?_, fun i hi => ?_, fun i j hi hj hij => ?_⟩⟩
  · match i, hi with
    | 0, _ => exact c0
    | 1, _ => exact c1
    | 2, _ => exact c2
    | 3, _ => exact c3
  · match i, hi with
    | 0, _ => exact b0
    | 1, _ => exact b1
    | 2, _ => exact b2
    | 3, _ => exact b3
  · match i, hi, j, hj, hij with
    | 0, _, 1, _, _ => exact n01
    | 0, _, 2, _, _ => exact n02
    | 0, _, 3, _, _ => exact n03
    | 1, _, 0, _, _ => exact n01.symm
    | 1, _, 2, _, _ => exact n12
    | 1, _, 3, _, _ => exact n13
    | 2, _, 0, _, _ => exact n02.symm
    | 2, _, 1, _, _ => exact n12.symm
    | 2, _, 3, _, _ => exact n23
    | 3, _, 0, _, _ => exact n03.symm
    | 3, _, 1, _, _ => exact n13.symm
    | 3, _, 2, _, _ => exact n23.symm
    | 0, _, 0, _, h => exact absurd rfl h
    | 1, _, 1, _, h => exact absurd rfl h
    | 2, _, 2, _, h => exact absurd rfl h
    | 3, _, 3, _, h => exact absurd rfl h

theorem vars_read4 {H : Type} (enc : TypeId × Value → H) {W : World} {x0 x1 x2 x3 : Value} (h0 : W.var? Tryd.prog "loop.example/treadle/impl.errNoRun" = some #[x0]) (h1 : W.var? Tryd.prog "loop.example/treadle/impl.errNoEvent" = some #[x1]) (h2 : W.var? Tryd.prog "loop.example/treadle/impl.errSomebody" = some #[x2]) (h3 : W.var? Tryd.prog "loop.example/treadle/impl.errBelow" = some #[x3]) (i0 : IsIface x0) (i1 : IsIface x1) (i2 : IsIface x2) (i3 : IsIface x3) (sp : Nat → Bool) :
    DataW.TrodVars enc Tryd.prog W sp ["loop.example/treadle/impl.errNoRun", "loop.example/treadle/impl.errNoEvent", "loop.example/treadle/impl.errSomebody", "loop.example/treadle/impl.errBelow"] [tok enc x0, tok enc x1, tok enc x2, tok enc x3] [.cell 0 0, .cell 1 0, .cell 2 0, .cell 3 0] :=
  ⟨0, 65, #[x0], 1, [], [.cell 1 0, .cell 2 0, .cell 3 0], Tryd.gE0, Tryd.gT0, h0, trod_held Tryd.underlying65 i0 0, ⟨1, 65, #[x1], 1, [], [.cell 2 0, .cell 3 0], Tryd.gE1, Tryd.gT1, h1, trod_held Tryd.underlying65 i1 0, ⟨2, 65, #[x2], 1, [], [.cell 3 0], Tryd.gE2, Tryd.gT2, h2, trod_held Tryd.underlying65 i2 0, ⟨3, 65, #[x3], 1, [], [], Tryd.gE3, Tryd.gT3, h3, trod_held Tryd.underlying65 i3 0, rfl, rfl⟩, rfl⟩, rfl⟩, rfl⟩

/-- a world in which the fourA errors are laid -/
def laidW (P : Program) (os : Os) : World :=
  let k := (World.holding P default ⟨#[], #[], []⟩).heap.size
  let w0 := World.holding P os ⟨#[.cells #[.string { data := #[116, 104, 101, 32, 108, 97, 121, 111, 117, 116, 32, 105, 115, 32, 110, 111, 116, 32, 114, 105, 103, 104, 116, 44, 32, 111, 114, 32, 116, 104, 101, 32, 101, 118, 101, 110, 116, 115, 32, 97, 114, 101, 32, 116, 111, 111, 32, 109, 97, 110, 121] }] 180, .cells #[.string { data := #[97, 110, 32, 101, 118, 101, 110, 116, 32, 105, 115, 32, 110, 111, 110, 101] }] 180, .cells #[.string { data := #[97, 32, 115, 101, 99, 116, 105, 111, 110, 32, 105, 115, 32, 114, 101, 115, 101, 116, 32, 119, 105, 116, 104, 32, 115, 111, 109, 101, 98, 111, 100, 121, 32, 105, 110, 32, 105, 116] }] 180, .cells #[.string { data := #[102, 101, 119, 101, 114, 32, 116, 104, 97, 110, 32, 110, 111, 98, 111, 100, 121, 32, 97, 114, 101, 32, 105, 110, 32, 97, 32, 115, 101, 99, 116, 105, 111, 110] }] 180], #[], []⟩
  { w0 with heap := (((w0.heap.modify 0 fun
      | .cells _ t frozen => .cells #[.iface 155 (.pointer (some ⟨k, 0, none⟩))] t frozen
      | o => o).modify 1 fun
      | .cells _ t frozen => .cells #[.iface 155 (.pointer (some ⟨k + 1, 0, none⟩))] t frozen
      | o => o).modify 2 fun
      | .cells _ t frozen => .cells #[.iface 155 (.pointer (some ⟨k + 2, 0, none⟩))] t frozen
      | o => o).modify 3 fun
      | .cells _ t frozen => .cells #[.iface 155 (.pointer (some ⟨k + 3, 0, none⟩))] t frozen
      | o => o }
theorem laidW_met (os : Os) (args : Array Value) : laidMet Tryd.prog [("loop.example/treadle/impl.errNoRun", Rows.laid_loop_example_treadle_impl_errNoRun), ("loop.example/treadle/impl.errNoEvent", Rows.laid_loop_example_treadle_impl_errNoEvent), ("loop.example/treadle/impl.errSomebody", Rows.laid_loop_example_treadle_impl_errSomebody), ("loop.example/treadle/impl.errBelow", Rows.laid_loop_example_treadle_impl_errBelow)] ((laidW Tryd.prog os).forCall (fun _ _ => 0) ⟨#[], args, []⟩).memory :=
  laidMet_of_run (ps := [.cell 0 0, .cell (World.holding Tryd.prog default ⟨#[], #[], []⟩).heap.size 0, .cell 1 0, .cell ((World.holding Tryd.prog default ⟨#[], #[], []⟩).heap.size + 1) 0, .cell 2 0, .cell ((World.holding Tryd.prog default ⟨#[], #[], []⟩).heap.size + 2) 0, .cell 3 0, .cell ((World.holding Tryd.prog default ⟨#[], #[], []⟩).heap.size + 3) 0]) 8 (by kernel_rfl) (by kernel_rfl) (by kernel_rfl)

end Go.Proofs.YtlpopfhaephfaaaDoor

namespace Go.Proofs.YtlpopfhaephfaaaDoor
open Go.ChangeShapes Go.WideShapes Go.ChangeAt Go.RowKit Go.Joins

set_option maxRecDepth 100000 in
theorem fnSpoilt_great (m1 c1 : Nat) (a1 : Option Addr) (w : World) (h1 : 1048576 < m1) :
    Calls Tryd.prog 5 #[.slice a1 m1 c1] w fun e w' => e = .returned (.bool true) ∧ Below w.heap.size w w' := by
  have i1 : (1048576 : Int) < m1 := by omega
  go_enter Tryd.func5, Tryd.ntmps5
  go_wp2
  go_ret
  exact ⟨rfl, Below.refl _ _⟩

theorem fnSpoilt_all (a : Nat → Addr) (m1 c1 : Nat) (a1 : Option Addr) (C1 : Nat → Int) (w : World) (ha : Snt w a) (h1 : Cod w w.heap.size a1 m1 C1) :
    Calls Tryd.prog 5 #[.slice a1 m1 c1] w fun e w' => e = .returned (.bool true) ∧ Below w.heap.size w w' := by
  by_cases h : 1048576 < m1
  · exact fnSpoilt_great m1 c1 a1 w h
  · exact spoilt_all a m1 c1 a1 C1 w ha h1 (by omega)

set_option maxRecDepth 100000 in
theorem fnSpoilt_lifted (os : Os) (started : os.Started) (H : Type) (enc : TypeId × Value → H) :
    ReturnsInHanded {} Tryd.checked os 5 .any (fun w args => (Rows.fnSpoiltSpec.pre enc Tryd.prog Tryd.f5 [] false w args ∧ laidMet Tryd.prog Rows.fnSpoiltRow.laid w) ∧ sizedMet enc Tryd.prog Tryd.f5 (OpenSpec.ofChange Rows.fnSpoiltSpec) false w args)
      (Rows.fnSpoiltSpec.post enc Tryd.prog Tryd.f5 false true false false) := by
  refine returnsInHanded_of_change_and (C := Tryd.checked) (X := fun w _ => laidMet Tryd.prog Rows.fnSpoiltRow.laid w) (fun _ _ _ hh h => h.of_heap hh) Tryd.ownD started (by kernel_rfl) Tryd.func5
    (ChangeSpec.witness_at (enc := enc) (C := Tryd.checked) (os := os) (X := fun w _ => laidMet Tryd.prog Rows.fnSpoiltRow.laid w) false (laidW Tryd.prog os) #[.slice none 0 0] 8 rfl (by kernel_rfl) (by kernel_rfl) (by kernel_rfl) (by kernel_rfl) (by kernel_rfl) (laidW_met os _)) ?_
  intro W base args ds gs before hval0 hW _ _ hL _
  have hval : ∀ (j : Nat) t v, Tryd.f5.params[j]? = some t → args[j]? = some v → Value.okWide Tryd.prog W .any base t v := hval0
  have hW' := hW
  obtain ⟨p, q, hA0, hV0, rfl, hfz, hnd⟩ := hW
  have hA : DataW.TrodAll enc Tryd.prog W 0 (fun _ => true) true Tryd.f5.params.toList args.toList ds p := hA0
  have hV : DataW.TrodVars enc Tryd.prog W (fun _ => true) ["loop.example/treadle/impl.errNoRun", "loop.example/treadle/impl.errNoEvent", "loop.example/treadle/impl.errSomebody", "loop.example/treadle/impl.errBelow"] gs q := hV0
  rw [Tryd.params5] at hA hval
  obtain ⟨v0, d0, rfl, rfl, h0⟩ := trodAll_one hA
  obtain ⟨a0, a1, a2, a3, x0, x1, x2, x3, hS⟩ := snt_of_laid hL
  obtain ⟨rfl, rfl⟩ := hV.unique (vars_read4 enc x0 x1 x2 x3 trivial trivial trivial trivial _)
  have hl0 : ∀ x ∈ p, x.block < W.heap.size := fun x hx => by simpa using hW'.lt x (by simp [hx])
  obtain ⟨ao, m1, c1, rfl⟩ := okWide_slice Tryd.underlying22 (hval 0 22 v0 rfl rfl)
  obtain ⟨_, C1, hc1⟩ := cod_of h0
  clear hA0 hval0 hV0
  refine (fnSpoilt_all _ m1 c1 ao C1 W hS hc1).mono fun e W' ⟨he, hb⟩ => ?_
  subst he
  have lt : ∀ i, i < 4 → i < W.heap.size := fun i hi => World.block_lt_of_cell? W _ (hS.cell i hi)
  refine ⟨_, rfl, _, _, _, [], p, [.cell 0 0, .cell 1 0, .cell 2 0, .cell 3 0], hW', ?_, ?_, ?_, hb.frame _, fun h => by cases h⟩
  · exact trodAll_mk1 (shut_bool Tryd.underlying4 true)
  · exact trodAll_mk1 (Below.trod Tryd.laidD (by kernel_rfl) (of_decide_eq_true (by kernel_rfl)) h0 hb hl0)
  · exact vars_read4 enc (var?_below hb Tryd.gE0 (lt 0 (by omega)) x0) (var?_below hb Tryd.gE1 (lt 1 (by omega)) x1) (var?_below hb Tryd.gE2 (lt 2 (by omega)) x2) (var?_below hb Tryd.gE3 (lt 3 (by omega)) x3) trivial trivial trivial trivial _

theorem fnSpoilt_row : Rows.FnSpoiltSaid :=
  OpenClaim.holds_of_wide 5 Tryd.f5 rfl rfl rfl rfl rfl rfl rfl ⟨rfl, rfl, rfl, rfl, rfl⟩ rfl rfl rfl rfl rfl (by kernel_rfl) Tryd.func5 (by kernel_rfl)
    (of_decide_eq_true (by kernel_rfl)) (by unfold Func.isWrapper; first | (rw [if_pos (by decide +kernel)]; kernel_rfl) | (rw [if_neg (by decide +kernel)]; exact ⟨rfl, rfl⟩))
    (fun os started H enc _ => fnSpoilt_lifted os started H enc)

theorem fnSpoilt_holds : Rows.FnSpoiltCardSaid :=
  Claim7.holds_tied_plain_at .later [] [.sentinel, .sentinel, .sentinel, .sentinel] true (true, "5e9e66964d3763e6ce57c902b8ad56f32d3ae6dd48d88a5b4502855b4b325035") true
    fnSpoilt_row (fun _ h => by cases h) (by kernel_rfl) (fun _ h => by cases h) fnSpoilt_row_tie rfl ⟨rfl, rfl⟩ (by kernel_rfl) rfl
    (fun f fn hf hfn => by
      obtain rfl : f = 5 := Option.some.inj ((show Tryd.prog.funcNamed "loop.example/treadle/laws.FnSpoilt" = some 5 by kernel_rfl).symm.trans hf) |>.symm
      obtain rfl : fn = Tryd.f5 := (Option.some.inj (Tryd.func5.symm.trans hfn)).symm
      exact ⟨by kernel_rfl, fun j t ht => by
        rw [Tryd.params5] at ht
        match j with
        | 0 =>
          have h3 : t = 22 := by simpa using ht.symm
          subst h3
          exact (show Tryd.prog.wantsStandIn 22 = false by kernel_rfl)
        | j + 1 => simp at ht⟩)
    (by kernel_rfl)

#print axioms fnSpoilt_holds

end Go.Proofs.YtlpopfhaephfaaaDoor
