import Derived.Test.YtlpopfhaephfaabGC
import Derived.Test.YtlpopfhaephfaabGD
namespace Go.Proofs.Ytlpopfhaephfaab
open Go.RowKit Go.Maps Go.Sort

theorem specGaps_bad (S : Int) (g n ge m : Nat) (F T : Nat → Int) (w : World) (hm : m ≤ 1048576) (hrow : Row w g 88 2 n (two F T)) (hb : ¬ (lokZ S n F T = 0 ∧ m ≤ 2000)) :
    Calls Try.prog 41 #[.agg #[.int .i64 S, .slice (some ⟨g, 0, none⟩) n n], .slice (some ⟨ge, 0, none⟩) m m] w fun e w' => e = .returned (.slice none 0 0) ∧ Below w.heap.size w w' := by
  have k1 := fun o => specTruth_bad S g n m m (some ⟨ge, 0, none⟩) F T _ hm (hrow.alloc o) hb
  have k2 := fun W hr => specRun_bad S g n m m (some ⟨ge, 0, none⟩) F T W hm hr hb
  go_enter Try.func41, Try.ntmps41
  go_wp2_with fail
  refine (k1 _).mono ?_
  rintro e w1 ⟨rfl, hb1⟩
  have B1 := below_on (show Below w.heap.size w _ from (by repeat (first | exact Below.refl _ _ | assumption | refine below_alloc ?_ _ | refine Below.setCell ?_ (by first | omega | (simp; done) | (simp; omega)) _ | refine Below.alloc ?_ (by first | omega | (simp; done) | (simp; omega)) _ | refine Below.drew ?_))) hb1
  have y0 : w1.cell? ⟨w.heap.size, 0, none⟩ = some (.int .i64 S) := (hb1.cell (p := ⟨w.heap.size, 0, none⟩) (by first | omega | (simp; done) | (simp; omega))).trans (by simp)
  have y1 : w1.cell? ⟨w.heap.size, 1, none⟩ = some (.slice (some ⟨g, 0, none⟩) n n) := (hb1.cell (p := ⟨w.heap.size, 1, none⟩) (by first | omega | (simp; done) | (simp; omega))).trans (by simp)
  go_wp2_with fail
  refine (k2 _ (hrow.on B1)).mono ?_
  rintro e w2 ⟨rfl, hb2⟩
  go_wp2
  refine wp_loop_rounds 1 ?_
  rw [rounds_succ]
  go_wp2
  go_ret
  exact ⟨rfl, below_on B1 hb2⟩

set_option maxRecDepth 100000 in
set_option maxHeartbeats 4000000 in
theorem specGaps_ok (g n ge m ns : Nat) (F T : Nat → Int) (P : Nat → Nat → Int) (w : World) (hrow : Row w g 88 2 n (two F T)) (hev : Row w ge 33 3 m (evs P)) (hl : lokZ (ns : Int) n F T = 0) (hm : m ≤ 2000) :
    Calls Try.prog 41 #[.agg #[.int .i64 (ns : Int), .slice (some ⟨g, 0, none⟩) n n], .slice (some ⟨ge, 0, none⟩) m m] w fun e w' => ∃ u, e = .returned u ∧ SlF w' 121 2 w.heap.size w'.heap.size u (gpA (ns : Int) n F T P ns m).length (evs (gpP (gpA (ns : Int) n F T P ns m))) ∧ Below w.heap.size w w' := by
  obtain ⟨r1, r2, r3⟩ := lok_range hl
  have hp : 0 < ns := by omega
  obtain ⟨i0, hi, hz0, hz1, hz2⟩ := info_parts Try.infoGp
  have k1 := fun o => specTruth_ok g n ge m ns F T P _ (hrow.alloc o) (Row.alloc hev o) hl hm
  have k2 := fun W hr (hv : Row W ge 33 3 m (evs P)) => specRun_ok (ns : Int) g n ge (ge + 1) m ns F T P _ W hr (SlF.of_row hv (Nat.le_refl _) (Nat.lt_succ_self _)) hl rfl hm
  go_enter Try.func41, Try.ntmps41
  go_wp2_with fail
  refine (k1 _).mono ?_
  rintro e w1 ⟨u1, rfl, R1, hb1⟩
  have B1 := below_on (show Below w.heap.size w _ from (by repeat (first | exact Below.refl _ _ | assumption | refine below_alloc ?_ _ | refine Below.setCell ?_ (by first | omega | (simp; done) | (simp; omega)) _ | refine Below.alloc ?_ (by first | omega | (simp; done) | (simp; omega)) _ | refine Below.drew ?_))) hb1
  have y0 : w1.cell? ⟨w.heap.size, 0, none⟩ = some (.int .i64 (ns : Int)) := (hb1.cell (p := ⟨w.heap.size, 0, none⟩) (by first | omega | (simp; done) | (simp; omega))).trans (by simp)
  have y1 : w1.cell? ⟨w.heap.size, 1, none⟩ = some (.slice (some ⟨g, 0, none⟩) n n) := (hb1.cell (p := ⟨w.heap.size, 1, none⟩) (by first | omega | (simp; done) | (simp; omega))).trans (by simp)
  go_wp2_with fail
  refine (k2 _ (hrow.on B1) (Row.on hev B1)).mono ?_
  rintro e w2 ⟨u2, rfl, D2, hb2⟩
  have B2 := below_on B1 hb2
  have R2 := R1.on hb2
  obtain ⟨Ar, Lr, ⟨ar, cr, rfl, hr0⟩, _, _, hrw⟩ := R2
  obtain ⟨A1, A2, L, ⟨ad, cd, rfl, hd0⟩, _, _, hdn⟩ := D2
  clear R1 hb1 hb2 y0 y1 k1 k2 B1
  go_wp2
  go_loopw [6, 18] (fun q i wr => ∃ k : Nat, k ≤ m ∧ i = .int .i64 k ∧ wr.ownsRow w2.heap.size 121 2 q (gpA (ns : Int) n F T P ns k).length (gpC (gpA (ns : Int) n F T P ns k)) ∧ Below w2.heap.size w2 wr) (fun _ i _ => m - (intOf i).toNat)
  case atStart => exact ⟨0, Nat.zero_le _, rfl, World.ownsRow_nil _ _ _ _, Below.refl _ _⟩
  case round =>
    obtain ⟨k, hk, rfl, hO, Bw⟩ := hrel
    by_cases hlt : k < m
    · have hi1 : (k : Int) < (m : Int) := by omega
      rcases hd0 with hd0 | ⟨gd, md, fd, rfl, _, _, d2, d3, d4⟩
      · omega
      rcases hr0 with hr0 | ⟨gr, mr, fr, rfl, _, _, t2, t3, t4⟩
      · omega
      obtain ⟨c0, c1, c2, c3⟩ := four (d3.below Bw d3.lt) d2 hlt d4
      obtain ⟨_, s1, s2⟩ := hdn k hlt
      have s3 := (hrw k hlt).2
      obtain ⟨x2, y2, e2, _⟩ := id s2
      obtain ⟨x1, y1, e1, _⟩ := id s1
      obtain ⟨x3, y3, e3, _⟩ := id s3
      rw [e1] at c2 s1
      rw [e2] at c3
      rw [e3] at s3
      obtain ⟨gs, rfl⟩ := s1.addr hp
      obtain ⟨gw, rfl⟩ := s3.addr hp
      obtain ⟨_, _, m5, f5, b1, b2, b3⟩ := s1.blk hp
      obtain ⟨_, _, m6, f6, v1, v2, v3⟩ := s3.blk hp
      have a0 := oneA t3 t2 hlt t4
      rw [e3] at a0
      have zgr := t3.lt
      have lg := gpA_len (ns : Int) n F T P ns k (by omega)
      have lg1 : (gpA (ns : Int) n F T P ns k).length ≤ 120000 := by omega
      clear d3 d4 t3 t4 s1 s2 s3 e1 e2 e3
      go_wp2
      rename World => wo
      go_loopw [6, 27] (fun q i wq => ∃ s : Nat, s ≤ ns ∧ i = .int .i64 s ∧ wq.ownsRow w2.heap.size 121 2 q (gpA (ns : Int) n F T P ns k ++ gpR (ns : Int) n F T P k s).length (gpC (gpA (ns : Int) n F T P ns k ++ gpR (ns : Int) n F T P k s)) ∧ Below w2.heap.size w2 wq) (fun _ i _ => ns - (intOf i).toNat)
      case atStart => exact ⟨0, Nat.zero_le _, rfl, by simpa [gpR] using hO.alloc _, below_alloc Bw _⟩
      case round =>
        clear hO Bw c0 c1 c2 c3
        obtain ⟨s, hs, rfl, hO, Bw⟩ := hrel
        by_cases hsl : s < ns
        · have hs1 : (s : Int) < (ns : Int) := by omega
          rename World => wq
          obtain ⟨f0, f1, f2, f3, f4⟩ := five (b2.below Bw b2.lt) b1 hsl b3
          have g0 := oneZ (v2.below Bw v2.lt) v1 hsl v3
          have a0' := (Bw.cell (p := ⟨gr, k, none⟩) zgr).trans a0
          have lr := gpR_len (ns : Int) n F T P k s
          have eG : gpR (ns : Int) n F T P k (s + 1) = gpR (ns : Int) n F T P k s ++ (if gapB (ns : Int) n F T P k s then [((k : Int), (s : Int))] else []) := rfl
          have eB : gapB (ns : Int) n F T P k s = (decide ((runX (ns : Int) n F T P (k + 1) s).told = 0) && decide (¬ trZ (ns : Int) n F T P (k + 1) s = 0)) := rfl
          obtain ⟨l, el⟩ : ∃ l, gpA (ns : Int) n F T P ns k ++ gpR (ns : Int) n F T P k s = l := ⟨_, rfl⟩
          have ll : l.length ≤ 130000 := by rw [← el, List.length_append]; omega
          rw [el] at hO
          obtain ⟨x, ex⟩ : ∃ x, runX (ns : Int) n F T P (k + 1) s = x := ⟨_, rfl⟩
          obtain ⟨z, ez⟩ : ∃ z, trZ (ns : Int) n F T P (k + 1) s = z := ⟨_, rfl⟩
          rw [ex] at f0 f1 f2 f3 f4 eB
          rw [ez] at g0 eB
          have lgr : gr < wq.heap.size := Nat.lt_of_lt_of_le zgr Bw.size
          have lgs : gs < wq.heap.size := Nat.lt_of_lt_of_le b2.lt Bw.size
          have lgw : gw < wq.heap.size := Nat.lt_of_lt_of_le v2.lt Bw.size
          have EL : Hid _ := el
          have EG : Hid _ := eG
          clear ex ez el eG a0
          obtain ⟨told, count, lost, sweep, last⟩ := x
          simp only at f0 f1 f2 f3 f4 eB
          by_cases ht : told = 0
          · subst ht
            by_cases hzz : z = 0
            · subst hzz
              have eB' : gapB (ns : Int) n F T P k s = false := by rw [eB]; rfl
              have EB : Hid _ := eB'
              clear eB eB'
              go_wp2
              go_roundw
              case rel => exact ⟨s + 1, by omega, by go_num, by rw [EG.out, EB.out]; simp only [Bool.false_eq_true, if_false, List.append_nil]; rw [EL.out]; exact hO.alloc _, below_alloc Bw _⟩
              case measure => simp [intOf]; omega
            · have eB' : gapB (ns : Int) n F T P k s = true := by rw [eB]; simp [hzz]
              have EB : Hid _ := eB'
              have hzz' : (z == 0) = false := by simp [hzz]
              have hU : Below wq.heap.size wq ((wq.alloc (.cells #[.int .i64 0, .int .i64 count, .bool lost, .bool sweep, .int .i64 last] 93)).alloc (.cells #[.int .i64 (k : Int), .int .i64 (s : Int)] 121)) := below_alloc (below_alloc (Below.refl _ _) _) _
              have ownU := own_on hO hU
              have hnw := new_cells2 (wq.alloc (.cells #[.int .i64 0, .int .i64 count, .bool lost, .bool sweep, .int .i64 last] 93)) (.int .i64 (k : Int)) (.int .i64 (s : Int)) 121
              rw [World.size_alloc] at hnw
              have h1c : ∀ u ∈ [Value.int .i64 (k : Int), .int .i64 (s : Int)], u.oneCell' = true := fun u hu => by
                simp only [List.mem_cons, List.not_mem_nil, or_false] at hu
                rcases hu with rfl | rfl <;> rfl
              have BU : Below w2.heap.size w2 _ := below_on Bw hU
              clear eB eB' hU
              go_wp2_with (first
                | (at_builtin; refine wpList_append_own _ rfl _ _ 72 rfl w2.heap.size 121 i0 _ 2 16 Try.underlying72 hi hz0 hz1 hz2 rfl (by decide) _ _ _ rfl ownU ⟨wq.heap.size + 1, 0, none⟩ 1 1 [.int .i64 (k : Int), .int .i64 (s : Int)] rfl rfl hnw h1c (by unfold maxLen; omega) (by omega) BU.size ?_; intro v' w6 hown' hgrow hnil; obtain ⟨g6, cap6, rfl⟩ := own_some hown' (by omega)))
              have tg := own_grown ownU hgrow
              go_roundw
              case rel =>
                refine ⟨s + 1, by omega, by go_num, ?_, BU.trans (tg.below (Nat.le_refl _) BU.size)⟩
                rw [EG.out, EB.out]
                simp only [if_true]
                rw [← List.append_assoc, EL.out, gpC_snoc, List.length_append]
                exact hown'
              case measure => simp [intOf]; omega
          · have eB' : gapB (ns : Int) n F T P k s = false := by rw [eB]; simp [ht]
            have EB : Hid _ := eB'
            have ht' : (told == 0) = false := by simp [ht]
            clear eB eB'
            go_wp2
            go_roundw
            case rel => exact ⟨s + 1, by omega, by go_num, by rw [EG.out, EB.out]; simp only [Bool.false_eq_true, if_false, List.append_nil]; rw [EL.out]; exact hO.alloc _, below_alloc Bw _⟩
            case measure => simp [intOf]; omega
        · have hsn : s = ns := by omega
          subst hsn
          go_wp2
          go_roundw
          case rel => exact ⟨k + 1, by omega, by go_num, hO, Bw⟩
          case measure => simp [intOf]; omega
    · have hkm : k = m := by omega
      subst hkm
      go_wp2
      go_ret
      exact ⟨_, rfl, (SlF.of_ownsRow hO (fun i hi j hj => gpC_get _ i j hi hj)).wide (by have := B2.size; omega) (Nat.le_refl _), below_on B2 Bw⟩

end Go.Proofs.Ytlpopfhaephfaab

namespace Go.Proofs.Ytlpopfhaephfaab
open Go.RowKit Go.Shelf
attribute [local go_sem] Oper.semAt_some

/-- what lies below B, but for one block, is as it was -/
def KB (w3 : World) (gb : Nat) (W : World) : Prop := w3.heap.size ≤ W.heap.size ∧ ∀ b, b < w3.heap.size → b ≠ gb → W.heap[b]? = w3.heap[b]?

theorem KB.grown {w3 A B : World} {gb : Nat} {row : Option Nat} (h : KB w3 gb A) (hg : A.grownBy B row) (hr : ∀ r, row = some r → w3.heap.size ≤ r ∨ r = gb) : KB w3 gb B :=
  ⟨Nat.le_trans h.1 hg.size, fun b hb hne => (hg.block b (Nat.lt_of_lt_of_le hb h.1) (fun e => by have := hr b e.symm; omega)).trans (h.2 b hb hne)⟩

theorem KB.turned {w3 A B : World} {gb lo hi : Nat} {E : Nat → Prop} (h : KB w3 gb A) (ht : Turned A B E lo hi) (hr : w3.heap.size ≤ lo ∨ (lo = gb ∧ hi = gb + 1)) : KB w3 gb B :=
  ⟨Nat.le_trans h.1 ht.size, fun b hb hne => by
    rcases ht.block b (Nat.lt_of_lt_of_le hb h.1) with h' | ⟨a1, a2, _⟩
    · exact h'.trans (h.2 b hb hne)
    · omega⟩

theorem KB.blk {w3 W : World} {gb b e e' m m' : Nat} {f f' : Nat → Value} (h : KB w3 gb W) (hG : Blk w3 gb e' m' f') (hb : Blk w3 b e m f) (he : e ≠ e') : W.heap[b]? = w3.heap[b]? :=
  h.2 b hb.lt (fun e1 => by subst e1; exact he (hb.type_eq hG))

/-- behind a gap that was found -/
theorem gap_fin {w w3 W wq w6 : World} {gb rb ns k s : Nat} {v v' : Value} {l : List (Int × Int)} {Z : Nat → Int} (hgb : w.heap.size ≤ gb) (hw3 : w.heap.size ≤ w3.heap.size) (hb : Blk wq gb 72 1 (fun _ => v)) (hO : wq.ownsRow w3.heap.size 121 2 v l.length (gpC l)) (hi : IntB wq rb ns Z) (hK : KB w3 gb wq) (hB : Below w.heap.size w wq) (k1 : KeepsOthers W wq) (k2 : KpT W wq)
    (r1 : w6.ownsRow w3.heap.size 121 2 v' (l.length + 1) (gpC l ++ [.int .i64 (k : Int), .int .i64 (s : Int)])) (r2 : (wq.alloc (.cells #[.int .i64 (k : Int), .int .i64 (s : Int)] 121)).grownBy w6 v.ownBlock) :
    Blk w6 gb 72 1 (fun _ => v) ∧ Blk (w6.setCell ⟨gb, 0, none⟩ v') gb 72 1 (fun _ => v') ∧ (w6.setCell ⟨gb, 0, none⟩ v').ownsRow w3.heap.size 121 2 v' (l ++ [((k : Int), (s : Int))]).length (gpC (l ++ [((k : Int), (s : Int))])) ∧ v'.ownBlock ≠ some rb ∧ IntB (w6.setCell ⟨gb, 0, none⟩ v') rb ns Z ∧ KB w3 gb (w6.setCell ⟨gb, 0, none⟩ v') ∧ Below w.heap.size w (w6.setCell ⟨gb, 0, none⟩ v') ∧ KeepsOthers W (w6.setCell ⟨gb, 0, none⟩ v') ∧ KpT W (w6.setCell ⟨gb, 0, none⟩ v') := by
  have hU : Below wq.heap.size wq (wq.alloc (.cells #[.int .i64 (k : Int), .int .i64 (s : Int)] 121)) := below_alloc (Below.refl _ _) _
  have ownU := own_on hO hU
  have tg := own_grown ownU r2
  have tW : Turned wq w6 (· = 121) w3.heap.size (wq.alloc (.cells #[.int .i64 (k : Int), .int .i64 (s : Int)] 121)).heap.size := (Turned.of_below hU).trans tg
  have b6 := hb.turned tW (.inl (by decide))
  have i6 : IntB w6 rb ns Z := Blk.turned hi tW (.inl (by decide))
  have tS : Turned w6 (w6.setCell ⟨gb, 0, none⟩ v') (· = 72) gb (gb + 1) := Turned.of_grown (grown_set (World.grownBy.refl _ _) _) (Nat.le_refl _) (by omega) rfl b6
  have z6 : wq.heap.size ≤ w6.heap.size := tW.size
  have hs := hB.size
  refine ⟨b6, blk_one b6 v', by rw [gpC_snoc, List.length_append]; exact own_turned r1 tS (by decide), fun e => ?_, Blk.turned i6 tS (.inl (by decide)), (hK.turned tW (.inl (Nat.le_refl _))).turned tS (.inr ⟨rfl, rfl⟩), (hB.trans (tW.below hw3 hs)).trans (tS.below hgb (by omega)), k1.trans ((keeps_turned tW).trans (keeps_turned tS)), k2.trans ((KpT.of_turned tW (by decide) (by decide) (by decide) (by decide)).trans (KpT.of_turned tS (by decide) (by decide) (by decide) (by decide)))⟩
  obtain ⟨_, mm, f, h9⟩ := own_blk r1 e
  exact absurd (h9.type_eq i6) (by decide)

theorem implGaps_bad (S : Int) (g n m ce : Nat) (ae : Option Addr) (F T : Nat → Int) (w : World) (hm : m ≤ 1048576) (hrow : Row w g 88 2 n (two F T)) (hb : ¬ (lokZ S n F T = 0 ∧ m ≤ 2000)) :
    Calls Try.prog 42 #[.agg #[.int .i64 S, .slice (some ⟨g, 0, none⟩) n n], .slice ae m ce] w fun e w' => e = .returned (.slice none 0 0) ∧ Below w.heap.size w w' := by
  have kc := fun o => runOk_any S g n m ce ae F T _ hm (hrow.alloc o)
  have e0 : (lokZ S n F T == 0 && decide (m ≤ 2000)) = false := by
    cases h1 : (lokZ S n F T == 0)
    · rfl
    · simp only [beq_iff_eq] at h1
      simp only [Bool.true_and, decide_eq_false_iff_not]
      exact fun h => hb ⟨h1, h⟩
  rw [e0] at kc
  go_enter Try.func42, Try.ntmps42
  go_wp2_with fail
  refine (kc _).mono ?_
  rintro e w1 ⟨rfl, hb1⟩
  have B1 := below_on (show Below w.heap.size w _ from (by repeat (first | exact Below.refl _ _ | assumption | refine below_alloc ?_ _ | refine Below.setCell ?_ (by first | omega | (simp; done) | (simp; omega)) _ | refine Below.alloc ?_ (by first | omega | (simp; done) | (simp; omega)) _ | refine Below.drew ?_))) hb1
  go_wp2
  go_ret
  exact ⟨rfl, B1⟩

set_option maxRecDepth 100000 in
set_option maxHeartbeats 4000000 in
theorem implGaps_ok (g n le he m ns : Nat) (F T : Nat → Int) (P : Nat → Nat → Int) (ve : Value) (w : World) (hrow : Row w g 88 2 n (two F T)) (hev : SlF w 33 3 le he ve m (evs P)) (hl : lokZ (ns : Int) n F T = 0) (hm : m ≤ 2000) :
    Calls Try.prog 42 #[.agg #[.int .i64 (ns : Int), .slice (some ⟨g, 0, none⟩) n n], ve] w fun e w' => ∃ u, e = .returned u ∧ SlF w' 121 2 w.heap.size w'.heap.size u (gpA (ns : Int) n F T P ns m).length (evs (gpP (gpA (ns : Int) n F T P ns m))) ∧ Below w.heap.size w w' := by
  obtain ⟨r1, r2, r3⟩ := lok_range hl
  have hp : 0 < ns := by omega
  have hm' : m ≤ 1048576 := by omega
  obtain ⟨ae, ce, rfl, he0⟩ := id hev
  obtain ⟨i0, hi, hz0, hz1, hz2⟩ := info_parts Try.infoGp
  have kc := fun o => runOk_any (ns : Int) g n m ce ae F T _ hm' (hrow.alloc o)
  have kr := fun W hr hv => implRun_ok (ns : Int) g n le he m ns F T P (.slice ae m ce) W hr hv hl rfl hm
  have e0 : (lokZ (ns : Int) n F T == 0 && decide (m ≤ 2000)) = true := by simp [hl, hm]
  rw [e0] at kc
  clear e0 he0
  obtain ⟨V, eV⟩ : ∃ V, w.alloc (.cells #[.int .i64 (ns : Int), .slice (some ⟨g, 0, none⟩) n n] 31) = V := ⟨_, rfl⟩
  have sV : V.heap.size = w.heap.size + 1 := by rw [← eV]; simp
  have bV : Below w.heap.size w V := by rw [← eV]; exact (by repeat (first | exact Below.refl _ _ | assumption | refine below_alloc ?_ _ | refine Below.setCell ?_ (by first | omega | (simp; done) | (simp; omega)) _ | refine Below.alloc ?_ (by first | omega | (simp; done) | (simp; omega)) _ | refine Below.drew ?_))
  have bL : Blk V w.heap.size 31 2 (fun i => if i = 0 then .int .i64 (ns : Int) else .slice (some ⟨g, 0, none⟩) n n) := by
    rw [← eV]
    exact Blk.new w #[.int .i64 (ns : Int), .slice (some ⟨g, 0, none⟩) n n] 31 _ (fun i hi => by simp at hi; match i, hi with | 0, _ => rfl | 1, _ => rfl)
  have P0 : ∀ W, Below V.heap.size V W → W.cell? ⟨w.heap.size, 0, none⟩ = some (.int .i64 (ns : Int)) ∧ W.cell? ⟨w.heap.size, 1, none⟩ = some (.slice (some ⟨g, 0, none⟩) n n) := fun W hb => ⟨(bL.on hb).cell (i := 0) (by omega), (bL.on hb).cell (i := 1) (by omega)⟩
  have kc' := kc (.cells #[.int .i64 (ns : Int), .slice (some ⟨g, 0, none⟩) n n] 31)
  rw [eV] at kc'
  have EV : Hid _ := eV
  clear eV bL kc
  refine (callsIn_wide (n := 3)).1 ?_
  refine callsIn_of_wp_marks Try.func42 rfl trivial ?_ rfl
  simp only [Try.ntmps42, List.size_toArray, List.length_cons, List.length_nil, Nat.reduceAdd, Nat.reduceSub, Array.replicate_succ, Array.replicate_zero, List.push_toArray, List.append_toArray, List.nil_append, List.cons_append]
  gi_wp2_with fail
  rw [EV.out]
  refine ⟨trivial, (callsIn_wide.2 kc').mono ?_⟩
  clear kc'
  rintro e w1 ⟨rfl, B1⟩
  obtain ⟨y0, y1⟩ := P0 w1 B1
  gi_wp2_with fail
  refine ⟨trivial, (callsIn_wide.2 (kr _ (hrow.on (below_on bV B1)) (hev.on (below_on bV B1)))).mono ?_⟩
  clear kr y0 y1
  rintro e w2 ⟨dv, rfl, D2, hb2⟩
  have B2 := below_on B1 hb2
  obtain ⟨A1, A2, L, hsl, hL0, hLm, hdn⟩ := D2
  obtain ⟨ad, cd, rfl, _⟩ := id hsl
  obtain ⟨y0, y1⟩ := P0 w2 B2
  have zl : w.heap.size < w2.heap.size := by have := B2.size; omega
  have zl1 : w.heap.size < w2.heap.size + 1 := by omega
  gi_wp2_with fail
  have bD : Blk ((w2.alloc (.cells #[.slice ad m cd] 59)).alloc (.cells #[.slice none 0 0] 72)) w2.heap.size 59 1 (fun _ => .slice ad m cd) :=
    (Blk.new w2 #[.slice ad m cd] 59 (fun _ => .slice ad m cd) (fun i hi => by simp at hi; match i, hi with | 0, _ => rfl)).alloc _
  have bG : Blk ((w2.alloc (.cells #[.slice ad m cd] 59)).alloc (.cells #[.slice none 0 0] 72)) (w2.heap.size + 1) 72 1 (fun _ => .slice none 0 0) := by
    have := Blk.new (w2.alloc (.cells #[.slice ad m cd] 59)) #[.slice none 0 0] 72 (fun _ => .slice none 0 0) (fun i hi => by simp at hi; match i, hi with | 0, _ => rfl)
    rw [World.size_alloc] at this
    exact this
  have B3' : Below w2.heap.size w2 ((w2.alloc (.cells #[.slice ad m cd] 59)).alloc (.cells #[.slice none 0 0] 72)) := below_alloc (below_alloc (Below.refl _ _) _) _
  obtain ⟨W2, e2⟩ : ∃ W2, (w2.alloc (.cells #[.slice ad m cd] 59)).alloc (.cells #[.slice none 0 0] 72) = W2 := ⟨_, rfl⟩
  have z2 : w2.heap.size + 1 < W2.heap.size := by rw [← e2]; simp
  rw [e2] at bD bG B3' ⊢
  clear e2 y0 y1
  refine ⟨trivial, (callsIn_wide.2 (rows_any (ns : Int) g n m ce ae W2)).mono ?_⟩
  rintro e w3 ⟨rfl, hw3⟩
  have h23 : Below W2.heap.size W2 w3 := by rw [hw3]; exact (by repeat (first | exact Below.refl _ _ | assumption | refine below_alloc ?_ _ | refine Below.setCell ?_ (by first | omega | (simp; done) | (simp; omega)) _ | refine Below.alloc ?_ (by first | omega | (simp; done) | (simp; omega)) _ | refine Below.drew ?_))
  have z3 : w3.heap.size = W2.heap.size + 1 + 1 := by rw [hw3]; simp
  have h2w3 := below_on B3' h23
  have B3 := below_on bV (below_on B2 h2w3)
  have eL : Blk w3 W2.heap.size 31 2 (fun i => if i = 0 then .int .i64 (ns : Int) else .slice (some ⟨g, 0, none⟩) n n) := by
    rw [hw3]
    exact (Blk.new W2 #[.int .i64 (ns : Int), .slice (some ⟨g, 0, none⟩) n n] 31 _ (fun i hi => by simp at hi; match i, hi with | 0, _ => rfl | 1, _ => rfl)).alloc _
  have eE : Blk w3 (W2.heap.size + 1) 61 1 (fun _ => .slice ae m ce) := by
    rw [hw3]
    have := Blk.new (W2.alloc (.cells #[.int .i64 (ns : Int), .slice (some ⟨g, 0, none⟩) n n] 31)) #[.slice ae m ce] 61 (fun _ => .slice ae m ce) (fun i hi => by simp at hi; match i, hi with | 0, _ => rfl)
    rw [World.size_alloc] at this
    exact this
  have EN : EnvT w3 W2.heap.size (W2.heap.size + 1) (ns : Int) g n le he m ae ce F T P := ⟨eL, eE, hrow.on B3, hev.on B3⟩
  have bD3 := bD.on h23
  have bG3 := bG.on h23
  have hsl3 := hsl.on h2w3
  have hdn3 : ∀ i, i < m → SlF w3 93 5 (L i) (L (i + 1)) (A1 i) ns (secs (runX (ns : Int) n F T P (i + 1))) ∧ ∃ x2 y2, A2 i = .slice x2 n y2 := fun i hi => ⟨(hdn i hi).2.1.on h2w3, by obtain ⟨x2, y2, e2, _⟩ := (hdn i hi).2.2; exact ⟨x2, y2, e2⟩⟩
  have zT : w2.heap.size + 1 < w3.heap.size := by omega
  have zw : w.heap.size ≤ w3.heap.size := B3.size
  have zw2 : w.heap.size ≤ w2.heap.size := by omega
  clear hw3 eL eE h23 bD bG B3' h2w3 B2 B1 EV P0 z3 sV bV hb2 hsl hdn hL0 hLm
  gi_wp2_with fail
  refine range_rows (gf := 99) (lb := #[.pointer (some ⟨W2.heap.size, 0, none⟩), .pointer (some ⟨W2.heap.size + 1, 0, none⟩)]) rfl (enters_of Try.func99 (by kernel_rfl) rfl) (rows1_in _ W2.heap.size (W2.heap.size + 1) g n le he m ce ns ae F T P w3 hl hm EN) (fun _ _ => rfl)
    (fun rb k W l o o' h h1 h2 => Blk.of_block h (World.putObj_heap_other (fun e1 => by subst e1; obtain ⟨o2, h3, h4⟩ := blk_cells h; rw [h1] at h3; cases h3; rw [h2] at h4; cases h4)))
    KpT.trans KpT.putObj
    (fun k W => ∃ v, Blk W (w2.heap.size + 1) 72 1 (fun _ => v) ∧ W.ownsRow w3.heap.size 121 2 v (gpA (ns : Int) n F T P ns k).length (gpC (gpA (ns : Int) n F T P ns k)) ∧ v.ownBlock ≠ some (w3.heap.size + 1 + 1) ∧ KB w3 (w2.heap.size + 1) W ∧ Below w.heap.size w W)
    ?own ⟨_, bG3, World.ownsRow_nil _ _ _ _, by simp [Value.ownBlock], ⟨Nat.le_refl _, fun _ _ _ => rfl⟩, B3⟩
    (fun k => { tmps := #[.agg #[.int .i64 (ns : Int), .slice (some ⟨g, 0, none⟩) n n], .slice ae m ce, .pointer (some ⟨w.heap.size, 0, none⟩), undef, .slice none 0 0, .pointer (some ⟨w2.heap.size, 0, none⟩), .pointer (some ⟨w2.heap.size + 1, 0, none⟩), .int .i64 (k : Int), .slice (some ⟨w3.heap.size + 1 + 1, 0, none⟩) ns ns, undef, undef, .agg #[.int .i64 (ns : Int), .slice (some ⟨g, 0, none⟩) n n], .slice ae m ce, .bool true, .bool false, .agg #[.int .i64 (ns : Int), .slice (some ⟨g, 0, none⟩) n n], .slice ae m ce, .slice ad m cd, .agg #[.int .i64 (ns : Int), .slice (some ⟨g, 0, none⟩) n n], .slice ae m ce, .func (.func 99) #[] #[.pointer (some ⟨W2.heap.size, 0, none⟩), .pointer (some ⟨W2.heap.size + 1, 0, none⟩)], .int .i64 (k : Int), .slice (some ⟨w3.heap.size + 1 + 1, 0, none⟩) ns ns, undef, undef, undef, undef, undef, undef, undef, undef, undef, undef, undef, undef, undef, undef, undef, undef, undef, undef, undef, undef, undef, undef, undef, undef, undef, undef, undef, undef, undef, undef], defers := [] }) ?assign ?body ?done
  case own =>
    rintro k A B row ⟨v, hb, hO, hne, hK, hB⟩ hg hr
    have key : ∀ b e mm f, Blk A b e mm f → b ≠ w3.heap.size + 1 + 1 → B.heap[b]? = A.heap[b]? := fun b e mm f h1 h2 => hg.block b h1.lt (fun e1 => by
      rcases hr b e1.symm with h | ⟨_, o, ho, hc⟩
      · exact h2 h
      · obtain ⟨o2, h3, h4⟩ := blk_cells h1
        rw [ho] at h3; cases h3; rw [hc] at h4; cases h4)
    refine ⟨v, hb.of_block (key _ _ _ _ hb (by omega)), own_of_block hO (fun b h1 => ?_), hne, hK.grown hg (fun r e => ?_), hB.grown hg hB.size (fun r e => ?_)⟩
    · obtain ⟨_, mm, f, h2⟩ := own_blk hO h1
      exact key _ _ _ _ h2 (fun e => hne (by rw [h1, e]))
    · rcases hr r e with h | ⟨h, _⟩ <;> omega
    · rcases hr r e with h | ⟨h, _⟩ <;> omega
  case assign =>
    intro l k W K hK
    gi_wp2
    exact hK
  case body =>
    rintro l k W hk ⟨v, hb, hO, hne, hKB, hB⟩ hrw
    have hi1 : (k : Int) < (m : Int) := by omega
    obtain ⟨s1, x2, y2, e2⟩ := hdn3 k hk
    obtain ⟨x1, y1, e1, _⟩ := id s1
    obtain ⟨ad', cd', ee, hd0⟩ := id hsl3
    simp only [Value.slice.injEq] at ee
    obtain ⟨rfl, _, rfl⟩ := ee
    rcases hd0 with hd0 | ⟨gd, md, fd, rfl, _, _, d2, d3, d4⟩
    · omega
    rw [e1] at s1
    obtain ⟨gs, rfl⟩ := s1.addr hp
    obtain ⟨_, _, m5, f5, b1, b2, b3⟩ := s1.blk hp
    have lg := gpA_len (ns : Int) n F T P ns k (by omega)
    have lg1 : (gpA (ns : Int) n F T P ns k).length ≤ 120000 := by omega
    gi_wp2
    gi_loopw [25] (fun i wq => ∃ (s : Nat) (v : Value), s ≤ ns ∧ i = .int .i64 s ∧ Blk wq (w2.heap.size + 1) 72 1 (fun _ => v) ∧ wq.ownsRow w3.heap.size 121 2 v (gpA (ns : Int) n F T P ns k ++ gpR (ns : Int) n F T P k s).length (gpC (gpA (ns : Int) n F T P ns k ++ gpR (ns : Int) n F T P k s)) ∧ v.ownBlock ≠ some (w3.heap.size + 1 + 1) ∧ IntB wq (w3.heap.size + 1 + 1) ns (trZ (ns : Int) n F T P (k + 1)) ∧ KB w3 (w2.heap.size + 1) wq ∧ Below w.heap.size w wq ∧ KeepsOthers W wq ∧ KpT W wq) (fun i _ => ns - (intOf i).toNat)
    case atStart => exact ⟨0, v, Nat.zero_le _, rfl, hb, by simpa [gpR] using hO, hne, hrw, hKB, hB, KeepsOthers.refl _, ⟨Nat.le_refl _, fun _ _ _ _ _ _ => rfl⟩⟩
    case round =>
      clear hb hO hne hKB hB hrw
      obtain ⟨s, v, hs, rfl, hb, hO, hne, hrw, hKB, hB, k1, k2⟩ := hrel
      by_cases hsl : s < ns
      · have hs1 : (s : Int) < (ns : Int) := by omega
        rename World => wq
        have q0 := Blk.cell hrw hsl
        have bD' := bD3.of_block (hKB.blk bG3 bD3 (by decide))
        have dc := bD'.cell (i := 0) (by omega)
        have d3' := d3.of_block (hKB.blk bG3 d3 (by decide))
        obtain ⟨c0, c1, c2, c3⟩ := four d3' d2 hk d4
        rw [e1] at c2
        rw [e2] at c3
        have b2' := b2.of_block (hKB.blk bG3 b2 (by decide))
        obtain ⟨f0, f1, f2, f3, f4⟩ := five b2' b1 hsl b3
        have gc := hb.cell (i := 0) (by omega)
        have lr := gpR_len (ns : Int) n F T P k s
        have eG : gpR (ns : Int) n F T P k (s + 1) = gpR (ns : Int) n F T P k s ++ (if gapB (ns : Int) n F T P k s then [((k : Int), (s : Int))] else []) := rfl
        have eB : gapB (ns : Int) n F T P k s = (decide ((runX (ns : Int) n F T P (k + 1) s).told = 0) && decide (¬ trZ (ns : Int) n F T P (k + 1) s = 0)) := rfl
        obtain ⟨l', el⟩ : ∃ l', gpA (ns : Int) n F T P ns k ++ gpR (ns : Int) n F T P k s = l' := ⟨_, rfl⟩
        have ll : l'.length ≤ 130000 := by rw [← el, List.length_append]; omega
        rw [el] at hO
        obtain ⟨x, ex⟩ : ∃ x, runX (ns : Int) n F T P (k + 1) s = x := ⟨_, rfl⟩
        obtain ⟨z, ez⟩ : ∃ z, trZ (ns : Int) n F T P (k + 1) s = z := ⟨_, rfl⟩
        rw [ex] at f0 f1 f2 f3 f4 eB
        simp only [ez] at q0
        rw [ez] at eB
        have EL : Hid _ := el
        have EG : Hid _ := eG
        have zt := hb.lt
        have zdb := bD'.lt
        have zgd := d3'.lt
        have zgs := b2'.lt
        have zrb : w3.heap.size + 1 + 1 < wq.heap.size := Blk.lt hrw
        clear ex ez el eG d3' b2' bD'
        obtain ⟨told, count, lost, sweep, last⟩ := x
        simp only at f0 f1 f2 f3 f4 eB
        by_cases hzz : z = 0
        · subst hzz
          have eB' : gapB (ns : Int) n F T P k s = false := by rw [eB]; simp
          have EB : Hid _ := eB'
          clear eB eB'
          gi_wp2
          go_roundw
          case rel => exact ⟨s + 1, v, by omega, by go_num, hb, by rw [EG.out, EB.out]; simp only [Bool.false_eq_true, if_false, List.append_nil]; rw [EL.out]; exact hO, hne, hrw, hKB, hB, k1, k2⟩
          case measure => simp [intOf]; omega
        · have hzz' : (z == 0) = false := by simp [hzz]
          by_cases ht : told = 0
          · subst ht
            have eB' : gapB (ns : Int) n F T P k s = true := by rw [eB]; simp [hzz]
            have EB : Hid _ := eB'
            have hnw := new_cells2 wq (.int .i64 (k : Int)) (.int .i64 (s : Int)) 121
            have h1c : ∀ u ∈ [Value.int .i64 (k : Int), .int .i64 (s : Int)], u.oneCell' = true := fun u hu => by
              simp only [List.mem_cons, List.not_mem_nil, or_false] at hu
              rcases hu with rfl | rfl <;> rfl
            have ownU := own_on hO (below_alloc (Below.refl wq.heap.size wq) (.cells #[.int .i64 (k : Int), .int .i64 (s : Int)] 121))
            have zbase : w3.heap.size ≤ (wq.alloc (.cells #[.int .i64 (k : Int), .int .i64 (s : Int)] 121)).heap.size := by simp; omega
            have fin := fun w6 v' r1 r2 => gap_fin (w := w) (w6 := w6) (v' := v') (k := k) (s := s) (show w.heap.size ≤ w2.heap.size + 1 by omega) zw hb hO hrw hKB hB k1 k2 r1 r2
            have FI : Hid _ := fin
            clear eB eB' fin
            gi_wp2_with (first
              | (gi_at_builtin; refine wpListIn_append_own _ rfl _ _ 72 rfl w3.heap.size 121 i0 _ 2 16 Try.underlying72 hi hz0 hz1 hz2 rfl (by decide) _ _ _ rfl ownU ⟨wq.heap.size, 0, none⟩ 1 1 [.int .i64 (k : Int), .int .i64 (s : Int)] rfl rfl hnw h1c (by unfold maxLen; omega) (by omega) zbase ?_; intro v' w6 hown' hgrow hnil; obtain ⟨g6, cap6, rfl⟩ := own_some hown' (by omega); obtain ⟨b6, fin⟩ := FI.out w6 _ hown' hgrow; have x6 := b6.cell (i := 0) (by omega); have u6 := b6.frozen 0; have FJ : Hid _ := fin; clear fin))
            obtain ⟨n1, n2, n3, n4, n5, n6, n7, n8⟩ := FJ.out
            go_roundw
            case rel =>
              refine ⟨s + 1, _, by omega, by go_num, n1, ?_, n3, n4, n5, n6, n7, n8⟩
              rw [EG.out, EB.out]
              simp only [if_true]
              rw [← List.append_assoc, EL.out]
              exact n2
            case measure => simp [intOf]; omega
          · have eB' : gapB (ns : Int) n F T P k s = false := by rw [eB]; simp [ht]
            have EB : Hid _ := eB'
            have ht' : (told == 0) = false := by simp [ht]
            clear eB eB'
            gi_wp2
            go_roundw
            case rel => exact ⟨s + 1, v, by omega, by go_num, hb, by rw [EG.out, EB.out]; simp only [Bool.false_eq_true, if_false, List.append_nil]; rw [EL.out]; exact hO, hne, hrw, hKB, hB, k1, k2⟩
            case measure => simp [intOf]; omega
      · have hsn : s = ns := by omega
        subst hsn
        gi_wp2
        exact ⟨k1, k2, hrw, v, hb, hO, hne, hKB, hB⟩
  case done =>
    rintro W ⟨v, hb, hO, hne, hKB, hB⟩ hD
    have c0 := hb.cell (i := 0) (by omega)
    have SW := SlF.of_ownsRow hO (fun i hi j hj => gpC_get _ i j hi hj)
    have BB : Below w.heap.size w (W.putObj w3.heap.size (.deferred none)) := hB.grown (grownBy_putObj' W w3.heap.size (.deferred none)) hB.size (fun r e => by cases e; exact zw)
    have SB : SlF (W.putObj w3.heap.size (.deferred none)) 121 2 w3.heap.size W.heap.size v _ (evs (gpP (gpA (ns : Int) n F T P ns m))) := SW.of_block (fun b _ _ h1 _ _ => World.putObj_heap_other (fun e1 => by
      subst e1
      obtain ⟨o2, h3, h4⟩ := blk_cells h1
      rw [hD] at h3; cases h3; cases h4))
    have HS : Hid _ := SB.wide (lo' := w.heap.size) zw (Nat.le_refl _)
    clear SW SB hO hb hne hKB
    gi_wp2
    refine ⟨by simp, .inl ⟨_, _, rfl, run_takeDeferred hD, ?_⟩⟩
    refine ⟨_, results_tmp rfl _ _ _, _, rfl, ?_, BB⟩
    rw [World.putObj_size]
    exact HS.out

end Go.Proofs.Ytlpopfhaephfaab
