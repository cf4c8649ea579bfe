import Derived.Test.YtlpopfhaephfaabGB
import Derived.Test.YtlpopfhaephfaabEV2
import Derived.Test.YtlpopfhaephfaabRC
namespace Go.Proofs.Ytlpopfhaephfaab
open Go.RowKit Go.Maps Go.Sort

theorem wrapS (z : Int) (h1 : -9223372036854775808 ≤ z) (h2 : z ≤ 9223372036854775807) : IntKind.i64.wrap z = z := by
  rw [IntKind.wrap_i64]; omega

theorem Turned.drew {w w' : World} {E : Nat → Prop} {lo hi : Nat} (h : Turned w w' E lo hi) : Turned w w'.drew E lo hi := ⟨h.os, h.tape, h.output, h.size, h.block⟩

theorem specTruth_bad (S : Int) (g n m ce : Nat) (ae : Option Addr) (F T : Nat → Int) (w : World) (hm : m ≤ 1048576) (hrow : Row w g 88 2 n (two F T)) (hb : ¬ (lokZ S n F T = 0 ∧ m ≤ 2000)) :
    Calls Try.prog 36 #[.agg #[.int .i64 S, .slice (some ⟨g, 0, none⟩) n n], .slice ae m ce] w fun e w' => e = .returned (.slice none 0 0) ∧ Below w.heap.size w w' := by
  have kc := fun o => specLayoutOk_any S g n F T _ (hrow.alloc o)
  go_enter Try.func36, Try.ntmps36
  go_wp2_with fail
  refine (kc _).mono ?_
  rintro e w1 ⟨rfl, hb1⟩
  have B1 := below_on (show Below w.heap.size w _ from (by repeat (first | exact Below.refl _ _ | assumption | refine below_alloc ?_ _ | refine Below.setCell ?_ (by first | omega | (simp; done) | (simp; omega)) _ | refine Below.alloc ?_ (by first | omega | (simp; done) | (simp; omega)) _ | refine Below.drew ?_))) hb1
  by_cases hl : lokZ S n F T = 0
  · have h2 : 2000 < (m : Int) := by
      have : ¬ m ≤ 2000 := fun h => hb ⟨hl, h⟩
      omega
    rw [hl]
    go_wp2
    go_ret
    exact ⟨rfl, B1⟩
  · have h1 : (lokZ S n F T == 0) = false := by simp [hl]
    go_wp2
    go_ret
    exact ⟨rfl, B1⟩

/-- an axle's step as the specification counts it -/
theorem step_spec {S d : Int} {n k : Nat} {F T Z : Nat → Int} (hev : evB S n 1 (k : Int) d = true) (hd : d = 1 ∨ d = -1) (s : Nat) : stepZ S n F T Z 1 (k : Int) d s = Z s - (if F k = (s : Int) then d else 0) + (if T k = (s : Int) then d else 0) := by
  unfold stepZ
  rw [if_pos ⟨hev, rfl⟩]
  simp only [Int.toNat_natCast]
  unfold fromZ toZ
  rcases hd with rfl | rfl
  · simp
  · simp only [show ¬ ((-1 : Int) = 1) by omega, if_false]
    split <;> split <;> omega

theorem step_other {S op f d : Int} {n : Nat} {F T Z : Nat → Int} (h : ¬ (evB S n op f d = true ∧ op = 1)) : stepZ S n F T Z op f d = Z := by
  unfold stepZ
  rw [if_neg h]

set_option maxRecDepth 100000 in
set_option maxHeartbeats 4000000 in
theorem specTruth_ok (g n ge m ns : Nat) (F T : Nat → Int) (P : Nat → Nat → Int) (w : World) (hrow : Row w g 88 2 n (two F T)) (hev : Row w ge 33 3 m (evs P)) (hl : lokZ (ns : Int) n F T = 0) (hm : m ≤ 2000) :
    Calls Try.prog 36 #[.agg #[.int .i64 (ns : Int), .slice (some ⟨g, 0, none⟩) n n], .slice (some ⟨ge, 0, none⟩) m m] w fun e w' => ∃ u, e = .returned u ∧ RwF w' w.heap.size w'.heap.size u m ns (fun k => trZ (ns : Int) n F T P (k + 1)) ∧ Below w.heap.size w w' := by
  obtain ⟨r1, r2, r3⟩ := lok_range hl
  have hp : 0 < ns := by omega
  have hm1 : ¬ 2000 < (m : Int) := by omega
  obtain ⟨i0, hi, hz0, hz1, hz2⟩ := info_parts Try.infoRw
  obtain ⟨Cs, zs, eCs, mk0⟩ := made_ints ns
  have mk := fun W => mk0 W (by omega)
  have kc := fun o => specLayoutOk_any (ns : Int) g n F T _ (hrow.alloc o)
  rw [hl] at kc
  obtain ⟨V, eV⟩ : ∃ V, w.alloc (.cells #[.int .i64 (ns : Int), .slice (some ⟨g, 0, none⟩) n n] 31) = V := ⟨_, rfl⟩
  have sV : V.heap.size = w.heap.size + 1 := by rw [← eV]; simp
  have bV : Below w.heap.size w V := by rw [← eV]; exact (by repeat (first | exact Below.refl _ _ | assumption | refine below_alloc ?_ _ | refine Below.setCell ?_ (by first | omega | (simp; done) | (simp; omega)) _ | refine Below.alloc ?_ (by first | omega | (simp; done) | (simp; omega)) _ | refine Below.drew ?_))
  have bL : Blk V w.heap.size 31 2 (fun i => if i = 0 then .int .i64 (ns : Int) else .slice (some ⟨g, 0, none⟩) n n) := by
    rw [← eV]
    exact Blk.new w #[.int .i64 (ns : Int), .slice (some ⟨g, 0, none⟩) n n] 31 _ (fun i hi => by simp at hi; match i, hi with | 0, _ => rfl | 1, _ => rfl)
  have P0 : ∀ W, Below V.heap.size V W → W.cell? ⟨w.heap.size, 0, none⟩ = some (.int .i64 (ns : Int)) ∧ W.cell? ⟨w.heap.size, 1, none⟩ = some (.slice (some ⟨g, 0, none⟩) n n) := fun W hb => ⟨(bL.on hb).cell (i := 0) (by omega), (bL.on hb).cell (i := 1) (by omega)⟩
  have kc' := kc (.cells #[.int .i64 (ns : Int), .slice (some ⟨g, 0, none⟩) n n] 31)
  rw [eV] at kc'
  have EV : Hid _ := eV
  clear eV bL kc mk0
  go_enter Try.func36, Try.ntmps36
  go_wp2_with fail
  rw [EV.out]
  refine kc'.mono ?_
  clear kc'
  rintro e w1 ⟨rfl, B1⟩
  have z1 : V.heap.size ≤ w1.heap.size := B1.size
  have I0 : RowI w1 V.heap.size V.heap.size w1.heap.size (.slice none 0 0) 0 ns (fun k => trZ (ns : Int) n F T P (k + 1)) := ⟨fun _ => .slice none 0 0, fun _ => w1.heap.size, World.ownsRow_nil _ _ _ _, z1, Nat.le_refl _, fun i hi => by omega⟩
  go_wp2
  go_loopw [5, 21] (fun q i wr => ∃ (k top : Nat), k ≤ m ∧ i = .int .i64 k ∧ RowI wr V.heap.size V.heap.size top q k ns (fun k => trZ (ns : Int) n F T P (k + 1)) ∧ top ≤ wr.heap.size ∧ Below V.heap.size V wr) (fun _ i _ => m - (intOf i).toNat)
  case atStart => exact ⟨0, w1.heap.size, Nat.zero_le _, rfl, I0, Nat.le_refl _, B1⟩
  case round =>
    clear I0 B1 z1 EV
    obtain ⟨k, top, hk, rfl, hI, htop, Bw⟩ := hrel
    by_cases hlt : k < m
    · have hi1 : (k : Int) < (m : Int) := by omega
      have hi2 : (k : Int) + 1 ≤ (m : Int) := by omega
      obtain ⟨y0, y1⟩ := P0 wr Bw
      have zw : w.heap.size < wr.heap.size := by have := Bw.size; omega
      have b0 : IntB (wr.alloc (.cells Cs 3)) wr.heap.size ns (trZ (ns : Int) n F T P 0) := by
        have := Blk.new wr Cs 3 (fun _ => .int .i64 0) (fun i hi => eCs i (by omega))
        rw [zs] at this
        exact this
      have hBr : Below wr.heap.size wr (wr.alloc (.cells Cs 3)) := below_alloc (Below.refl _ _) _
      go_wp2
      rename World => wo
      go_loopw [32] (fun i wq => ∃ j : Nat, j ≤ k + 1 ∧ i = .int .i64 j ∧ IntB wq wo.heap.size ns (trZ (ns : Int) n F T P j) ∧ Below wo.heap.size wo wq) (fun i _ => k + 1 - (intOf i).toNat)
      case atStart => exact ⟨0, Nat.zero_le _, rfl, b0, hBr⟩
      case round =>
        clear b0 hBr
        obtain ⟨j, hj, rfl, hB, hBq⟩ := hrel
        by_cases hjl : j < k + 1
        · have hj1 : (j : Int) < (k : Int) + 1 := by omega
          have hjm : j < m := by omega
          have Bq := below_on Bw hBq
          obtain ⟨c0, c1, c2⟩ := trio (hev.on (below_on bV Bq)) (Nat.le_refl _) hjm (fun i _ j hj => by rw [idx_div hj, idx_mod hj])
          obtain ⟨y0, y1⟩ := P0 _ Bq
          have eZ : trZ (ns : Int) n F T P (j + 1) = stepZ (ns : Int) n F T (trZ (ns : Int) n F T P j) (P j 0) (P j 1) (P j 2) := rfl
          have hZ := fun s => trZ_bound (ns : Int) n F T P j s
          obtain ⟨op, eop⟩ : ∃ op, P j 0 = op := ⟨_, rfl⟩
          obtain ⟨f, ef⟩ : ∃ f, P j 1 = f := ⟨_, rfl⟩
          obtain ⟨d, ed⟩ : ∃ d, P j 2 = d := ⟨_, rfl⟩
          rw [eop] at c0 eZ
          rw [ef] at c1 eZ
          rw [ed] at c2 eZ
          obtain ⟨Z, eZ0⟩ : ∃ Z, trZ (ns : Int) n F T P j = Z := ⟨_, rfl⟩
          rw [eZ0] at hB eZ
          simp only [eZ0] at hZ
          clear eop ef ed eZ0
          have EZ : Hid _ := eZ
          clear eZ
          rename World => wq
          have zq : w.heap.size < wq.heap.size := by have := Bq.size; omega
          have hBa : Below wq.heap.size wq (wq.alloc (.cells #[.int .i64 op, .int .i64 f, .int .i64 d] 33)) := below_alloc (Below.refl _ _) _
          by_cases hop : op = 1
          · subst hop
            have ke := specEventOk_any (ns : Int) 1 f d g n F T (wq.alloc (.cells #[.int .i64 1, .int .i64 f, .int .i64 d] 33)) ((hrow.on (below_on bV Bq)).alloc _)
            have eE : evOk (ns : Int) n F T 1 f d = evB (ns : Int) n 1 f d := by unfold evOk; rw [hl]; simp
            rw [eE] at ke
            clear eE
            cases hv : evB (ns : Int) n 1 f d
            · rw [hv] at ke
              have eq : stepZ (ns : Int) n F T Z 1 f d = Z := step_other (fun h => by rw [hv] at h; cases h.1)
              have EQ : Hid _ := eq
              clear eq
              go_wp2_with fail
              refine ke.mono ?_
              clear ke
              rintro e w4 ⟨rfl, hb4⟩
              have h4 := below_on hBa hb4
              go_wp2
              go_roundw
              case rel => exact ⟨j + 1, by omega, by go_num, by rw [EZ.out, EQ.out]; exact Blk.on hB h4, below_on hBq h4⟩
              case measure => simp [intOf]; omega
            · rw [hv] at ke
              unfold evB at hv
              rw [if_pos (.inl rfl)] at hv
              simp only [decide_eq_true_eq] at hv
              obtain ⟨h1, h2, hd⟩ := hv
              obtain ⟨kk, rfl⟩ : ∃ kk : Nat, f = (kk : Int) := ⟨f.toNat, by omega⟩
              have hkk : kk < n := by omega
              have hkk' : (kk : Int) < (n : Int) := by omega
              have hs := lok_sides hl kk hkk
              have hv' : evB (ns : Int) n 1 (kk : Int) d = true := by unfold evB; rw [if_pos (.inl rfl)]; simp only [decide_eq_true_eq]; exact ⟨h1, h2, hd⟩
              have ES : Hid (∀ s, _) := fun s => step_spec (F := F) (T := T) (Z := Z) hv' hd s
              go_wp2_with fail
              refine ke.mono ?_
              clear ke
              rintro e w4 ⟨rfl, hb4⟩
              have h4 := below_on hBa hb4
              have R4 := hrow.on (below_on bV (below_on Bq h4))
              have g0 := R4.cell0 hkk (by omega)
              have g1 := R4.cell (j := 1) hkk (by omega)
              simp only [two, if_true, Nat.one_ne_zero, if_false] at g0 g1
              obtain ⟨y0', y1'⟩ := P0 _ (below_on Bq h4)
              have eb4 := (Box3.lay wq (.int .i64 1) (.int .i64 (kk : Int)) (.int .i64 d) 33).on hb4
              obtain ⟨e0, e1, e2⟩ := eb4.cells
              have hB4 : IntB w4 wo.heap.size ns Z := Blk.on hB h4
              obtain ⟨a, ea⟩ : ∃ a, F kk = a := ⟨_, rfl⟩
              obtain ⟨b, eb⟩ : ∃ b, T kk = b := ⟨_, rfl⟩
              rw [ea] at g0 hs
              rw [eb] at g1 hs
              have EA : Hid _ := ea
              have EB : Hid _ := eb
              have zq4 : wq.heap.size < w4.heap.size := Blk.lt eb4
              have zo4 : wo.heap.size < w4.heap.size := Blk.lt hB4
              have zl4 : w.heap.size < w4.heap.size := by omega
              have zg4 : g < w4.heap.size := R4.lt
              have bb1 : -1 ≤ d ∧ d ≤ 1 := by omega
              clear ea eb c0 c1 c2 y0 y1 hBa hb4 hv' R4 hB
              rcases (show a = -1 ∨ 0 ≤ a by omega) with ha | ha
              · subst ha
                have hb0 : 0 ≤ b := by omega
                obtain ⟨j1, rfl⟩ : ∃ j1 : Nat, b = (j1 : Int) := ⟨b.toNat, by omega⟩
                have lj1 : j1 < ns := by omega
                have lj1' : (j1 : Int) < (ns : Int) := by omega
                have pj1 : (0 : Int) ≤ (j1 : Int) := by omega
                obtain ⟨xj1, ej1⟩ : ∃ x, Z j1 = x := ⟨_, rfl⟩
                have hj1 := hZ j1
                rw [ej1] at hj1
                go_upto_region 16 with fail
                obtain ⟨U, eU⟩ : ∃ U, w4.alloc (.cells #[.int .i64 (-1), .int .i64 (j1 : Int)] 88) = U := ⟨_, rfl⟩
                have hbU : Below w4.heap.size w4 U := by rw [← eU]; exact (by repeat (first | exact Below.refl _ _ | assumption | refine below_alloc ?_ _ | refine Below.setCell ?_ (by first | omega | (simp; done) | (simp; omega)) _ | refine Below.alloc ?_ (by first | omega | (simp; done) | (simp; omega)) _ | refine Below.drew ?_))
                have cbx : Blk U w4.heap.size 88 2 (fun i => if i = 0 then .int .i64 (-1) else .int .i64 (j1 : Int)) := by
                  rw [← eU]
                  exact Blk.new w4 #[.int .i64 (-1), .int .i64 (j1 : Int)] 88 _ (fun i hi => by simp at hi; match i, hi with | 0, _ => rfl | 1, _ => rfl)
                rw [eU]
                have ebx := eb4.on hbU
                have iB : IntB U wo.heap.size ns Z := Blk.on hB4 hbU
                have hU := below_on h4 hbU
                have zU := hbU.size
                have zoU : wo.heap.size < U.heap.size := by omega
                clear eU hbU
                refine wp_region_any (by kernel_rfl) ?_
                refine InC.any (C := fun W => Blk W w4.heap.size 88 2 (fun i => if i = 0 then .int .i64 (-1) else .int .i64 (j1 : Int)) ∧ Box3 W wq.heap.size 33 (.int .i64 1) (.int .i64 (kk : Int)) (.int .i64 d)) _ _ _ _ ?_
                have C0 : Blk U.drew w4.heap.size 88 2 (fun i => if i = 0 then .int .i64 (-1) else .int .i64 (j1 : Int)) ∧ Box3 U.drew wq.heap.size 33 (.int .i64 1) (.int .i64 (kk : Int)) (.int .i64 d) := ⟨cbx, ebx⟩
                refine InC.take (i := 0) (v := .slice (some ⟨wo.heap.size, 0, none⟩) ns ns) rfl (by kernel_rfl) (by kernel_rfl) (by kernel_rfl) (fun _ _ _ h => h) C0 (Or.inl ⟨by rfl, ?_⟩) ?_
                · intro W hW
                  go_simp
                refine InC.take (i := 1) (v := .pointer (some ⟨w4.heap.size, 1, none⟩)) rfl (by kernel_rfl) (by kernel_rfl) (by kernel_rfl) (fun _ _ _ h => h) C0 (Or.inl ⟨by rfl, ?_⟩) ?_
                · intro W hW
                  go_simp
                refine InC.take (i := 2) (v := .int .i64 (j1 : Int)) rfl (by kernel_rfl) (by kernel_rfl) (by kernel_rfl) (fun _ _ _ h => h) C0 (Or.inl ⟨by rfl, ?_⟩) ?_
                · intro W hW
                  have k0 := hW.1.cell (i := 1) (by omega)
                  simp only [Nat.one_ne_zero, if_false] at k0
                  go_simp
                refine InC.take (i := 3) (v := .pointer (some ⟨wo.heap.size, j1, none⟩)) rfl (by kernel_rfl) (by kernel_rfl) (by kernel_rfl) (fun _ _ _ h => h) C0 (Or.inl ⟨by rfl, ?_⟩) ?_
                · intro W hW
                  go_simp
                refine InC.take (i := 5) (v := .pointer (some ⟨wq.heap.size, 2, none⟩)) rfl (by kernel_rfl) (by kernel_rfl) (by kernel_rfl) (fun _ _ _ h => h) C0 (Or.inl ⟨by rfl, ?_⟩) ?_
                · intro W hW
                  go_simp
                refine InC.take (i := 6) (v := .int .i64 d) rfl (by kernel_rfl) (by kernel_rfl) (by kernel_rfl) (fun _ _ _ h => h) C0 (Or.inl ⟨by rfl, ?_⟩) ?_
                · intro W hW
                  obtain ⟨e0, e1, e2⟩ := hW.2.cells
                  go_simp
                have x0 := Blk.cell iB (i := j1) (by omega)
                simp only [ej1] at x0
                have q0 := Blk.frozen iB j1
                have tS := IntB.turn iB j1 (.int .i64 (xj1 + d))
                have iS := IntB.set iB j1 (xj1 + d)
                have cbS := Blk.turned cbx tS (.inl (by decide))
                have ebS := Box3.turned ebx tS (.inl (by decide))
                have HS : Hid _ := tS
                have HI : Hid _ := iS
                have HC : Hid _ := cbS
                have HE : Hid _ := ebS
                clear tS iS cbS ebS
                refine InC.next1 (i := 4) (by kernel_rfl) (InC.one rfl fun K hK => ?_)
                go_simp
                refine hK _ _ C0 ?_
                clear hK K
                refine InC.next1 (i := 7) (by kernel_rfl) (InC.one rfl fun K hK => ?_)
                go_simp
                simp only [wrapS (xj1 + d) (by omega) (by omega)]
                refine hK _ _ C0 ?_
                clear hK K
                refine InC.next1 (i := 8) (by kernel_rfl) (InC.one rfl fun K hK => ?_)
                go_simp
                refine hK _ _ C0 ?_
                clear hK K
                refine InC.next1 (i := 9) (by kernel_rfl) (InC.one rfl fun K hK => ?_)
                go_simp
                refine hK _ _ ⟨HC.out, HE.out⟩ ?_
                clear hK K
                refine InC.done (by kernel_rfl) ?_
                have key := HI.out
                have tk := HS.out
                go_wp2
                go_roundw
                case rel =>
                  refine ⟨j + 1, by omega, by go_num, ?_, (hBq.trans (hU.mono (by have := hBq.size; omega))).trans (Turned.below (Turned.drew tk) (Nat.le_refl _) (by omega))⟩
                  rw [EZ.out]
                  refine Blk.congr key (fun i hi => ?_)
                  rw [ES.out i, EA.out, EB.out]
                  by_cases e : i = j1
                  · subst e
                    have n1 : ¬ (-1 : Int) = (i : Int) := by omega
                    simp [n1, ej1]
                  · have n1 : ¬ (-1 : Int) = (i : Int) := by omega
                    have n2 : ¬ (j1 : Int) = (i : Int) := by omega
                    simp [e, n1, n2]
                case measure => simp [intOf]; omega
              · rcases (show b = -1 ∨ 0 ≤ b by omega) with hb0 | hb0
                · subst hb0
                  obtain ⟨i1, rfl⟩ : ∃ i1 : Nat, a = (i1 : Int) := ⟨a.toNat, by omega⟩
                  have li1 : i1 < ns := by omega
                  have li1' : (i1 : Int) < (ns : Int) := by omega
                  have pi1 : (0 : Int) ≤ (i1 : Int) := by omega
                  obtain ⟨xi1, ei1⟩ : ∃ x, Z i1 = x := ⟨_, rfl⟩
                  have hi1 := hZ i1
                  rw [ei1] at hi1
                  go_upto_region 14 with fail
                  obtain ⟨U, eU⟩ : ∃ U, w4.alloc (.cells #[.int .i64 (i1 : Int), .int .i64 (-1)] 88) = U := ⟨_, rfl⟩
                  have hbU : Below w4.heap.size w4 U := by rw [← eU]; exact (by repeat (first | exact Below.refl _ _ | assumption | refine below_alloc ?_ _ | refine Below.setCell ?_ (by first | omega | (simp; done) | (simp; omega)) _ | refine Below.alloc ?_ (by first | omega | (simp; done) | (simp; omega)) _ | refine Below.drew ?_))
                  have cbx : Blk U w4.heap.size 88 2 (fun i => if i = 0 then .int .i64 (i1 : Int) else .int .i64 (-1)) := by
                    rw [← eU]
                    exact Blk.new w4 #[.int .i64 (i1 : Int), .int .i64 (-1)] 88 _ (fun i hi => by simp at hi; match i, hi with | 0, _ => rfl | 1, _ => rfl)
                  rw [eU]
                  have ebx := eb4.on hbU
                  have iB : IntB U wo.heap.size ns Z := Blk.on hB4 hbU
                  have hU := below_on h4 hbU
                  have zU := hbU.size
                  have zoU : wo.heap.size < U.heap.size := by omega
                  clear eU hbU
                  refine wp_region_any (by kernel_rfl) ?_
                  refine InC.any (C := fun W => Blk W w4.heap.size 88 2 (fun i => if i = 0 then .int .i64 (i1 : Int) else .int .i64 (-1)) ∧ Box3 W wq.heap.size 33 (.int .i64 1) (.int .i64 (kk : Int)) (.int .i64 d)) _ _ _ _ ?_
                  have C0 : Blk U.drew w4.heap.size 88 2 (fun i => if i = 0 then .int .i64 (i1 : Int) else .int .i64 (-1)) ∧ Box3 U.drew wq.heap.size 33 (.int .i64 1) (.int .i64 (kk : Int)) (.int .i64 d) := ⟨cbx, ebx⟩
                  refine InC.take (i := 0) (v := .slice (some ⟨wo.heap.size, 0, none⟩) ns ns) rfl (by kernel_rfl) (by kernel_rfl) (by kernel_rfl) (fun _ _ _ h => h) C0 (Or.inl ⟨by rfl, ?_⟩) ?_
                  · intro W hW
                    go_simp
                  refine InC.take (i := 1) (v := .pointer (some ⟨w4.heap.size, 0, none⟩)) rfl (by kernel_rfl) (by kernel_rfl) (by kernel_rfl) (fun _ _ _ h => h) C0 (Or.inl ⟨by rfl, ?_⟩) ?_
                  · intro W hW
                    go_simp
                  refine InC.take (i := 2) (v := .int .i64 (i1 : Int)) rfl (by kernel_rfl) (by kernel_rfl) (by kernel_rfl) (fun _ _ _ h => h) C0 (Or.inl ⟨by rfl, ?_⟩) ?_
                  · intro W hW
                    have k0 := hW.1.cell (i := 0) (by omega)
                    simp only [if_true] at k0
                    go_simp
                  refine InC.take (i := 3) (v := .pointer (some ⟨wo.heap.size, i1, none⟩)) rfl (by kernel_rfl) (by kernel_rfl) (by kernel_rfl) (fun _ _ _ h => h) C0 (Or.inl ⟨by rfl, ?_⟩) ?_
                  · intro W hW
                    go_simp
                  refine InC.take (i := 5) (v := .pointer (some ⟨wq.heap.size, 2, none⟩)) rfl (by kernel_rfl) (by kernel_rfl) (by kernel_rfl) (fun _ _ _ h => h) C0 (Or.inl ⟨by rfl, ?_⟩) ?_
                  · intro W hW
                    go_simp
                  refine InC.take (i := 6) (v := .int .i64 d) rfl (by kernel_rfl) (by kernel_rfl) (by kernel_rfl) (fun _ _ _ h => h) C0 (Or.inl ⟨by rfl, ?_⟩) ?_
                  · intro W hW
                    obtain ⟨e0, e1, e2⟩ := hW.2.cells
                    go_simp
                  have x0 := Blk.cell iB (i := i1) (by omega)
                  simp only [ei1] at x0
                  have q0 := Blk.frozen iB i1
                  have tS := IntB.turn iB i1 (.int .i64 (xi1 - d))
                  have iS := IntB.set iB i1 (xi1 - d)
                  have cbS := Blk.turned cbx tS (.inl (by decide))
                  have ebS := Box3.turned ebx tS (.inl (by decide))
                  have HS : Hid _ := tS
                  have HI : Hid _ := iS
                  have HC : Hid _ := cbS
                  have HE : Hid _ := ebS
                  clear tS iS cbS ebS
                  refine InC.next1 (i := 4) (by kernel_rfl) (InC.one rfl fun K hK => ?_)
                  go_simp
                  refine hK _ _ C0 ?_
                  clear hK K
                  refine InC.next1 (i := 7) (by kernel_rfl) (InC.one rfl fun K hK => ?_)
                  go_simp
                  simp only [wrapS (xi1 - d) (by omega) (by omega)]
                  refine hK _ _ C0 ?_
                  clear hK K
                  refine InC.next1 (i := 8) (by kernel_rfl) (InC.one rfl fun K hK => ?_)
                  go_simp
                  refine hK _ _ C0 ?_
                  clear hK K
                  refine InC.next1 (i := 9) (by kernel_rfl) (InC.one rfl fun K hK => ?_)
                  go_simp
                  refine hK _ _ ⟨HC.out, HE.out⟩ ?_
                  clear hK K
                  refine InC.done (by kernel_rfl) ?_
                  have cb1 := Blk.cell HC.out (i := 1) (by omega)
                  simp only [Nat.one_ne_zero, if_false] at cb1
                  have key := HI.out
                  have tk := HS.out
                  go_wp2
                  go_roundw
                  case rel =>
                    refine ⟨j + 1, by omega, by go_num, ?_, (hBq.trans (hU.mono (by have := hBq.size; omega))).trans (Turned.below (Turned.drew tk) (Nat.le_refl _) (by omega))⟩
                    rw [EZ.out]
                    refine Blk.congr key (fun i hi => ?_)
                    rw [ES.out i, EA.out, EB.out]
                    by_cases e : i = i1
                    · subst e
                      have n1 : ¬ (-1 : Int) = (i : Int) := by omega
                      simp [n1, ei1]
                    · have n1 : ¬ (-1 : Int) = (i : Int) := by omega
                      have n2 : ¬ (i1 : Int) = (i : Int) := by omega
                      simp [e, n1, n2]
                  case measure => simp [intOf]; omega
                · obtain ⟨i1, rfl⟩ : ∃ i1 : Nat, a = (i1 : Int) := ⟨a.toNat, by omega⟩
                  have li1 : i1 < ns := by omega
                  have li1' : (i1 : Int) < (ns : Int) := by omega
                  have pi1 : (0 : Int) ≤ (i1 : Int) := by omega
                  obtain ⟨xi1, ei1⟩ : ∃ x, Z i1 = x := ⟨_, rfl⟩
                  have hi1 := hZ i1
                  rw [ei1] at hi1
                  obtain ⟨j1, rfl⟩ : ∃ j1 : Nat, b = (j1 : Int) := ⟨b.toNat, by omega⟩
                  have lj1 : j1 < ns := by omega
                  have lj1' : (j1 : Int) < (ns : Int) := by omega
                  have pj1 : (0 : Int) ≤ (j1 : Int) := by omega
                  obtain ⟨xj1, ej1⟩ : ∃ x, Z j1 = x := ⟨_, rfl⟩
                  have hj1 := hZ j1
                  rw [ej1] at hj1
                  have hij : ¬ j1 = i1 := by omega
                  go_upto_region 14 with fail
                  obtain ⟨U, eU⟩ : ∃ U, w4.alloc (.cells #[.int .i64 (i1 : Int), .int .i64 (j1 : Int)] 88) = U := ⟨_, rfl⟩
                  have hbU : Below w4.heap.size w4 U := by rw [← eU]; exact (by repeat (first | exact Below.refl _ _ | assumption | refine below_alloc ?_ _ | refine Below.setCell ?_ (by first | omega | (simp; done) | (simp; omega)) _ | refine Below.alloc ?_ (by first | omega | (simp; done) | (simp; omega)) _ | refine Below.drew ?_))
                  have cbx : Blk U w4.heap.size 88 2 (fun i => if i = 0 then .int .i64 (i1 : Int) else .int .i64 (j1 : Int)) := by
                    rw [← eU]
                    exact Blk.new w4 #[.int .i64 (i1 : Int), .int .i64 (j1 : Int)] 88 _ (fun i hi => by simp at hi; match i, hi with | 0, _ => rfl | 1, _ => rfl)
                  rw [eU]
                  have ebx := eb4.on hbU
                  have iB : IntB U wo.heap.size ns Z := Blk.on hB4 hbU
                  have hU := below_on h4 hbU
                  have zU := hbU.size
                  have zoU : wo.heap.size < U.heap.size := by omega
                  clear eU hbU
                  refine wp_region_any (by kernel_rfl) ?_
                  refine InC.any (C := fun W => Blk W w4.heap.size 88 2 (fun i => if i = 0 then .int .i64 (i1 : Int) else .int .i64 (j1 : Int)) ∧ Box3 W wq.heap.size 33 (.int .i64 1) (.int .i64 (kk : Int)) (.int .i64 d)) _ _ _ _ ?_
                  have C0 : Blk U.drew w4.heap.size 88 2 (fun i => if i = 0 then .int .i64 (i1 : Int) else .int .i64 (j1 : Int)) ∧ Box3 U.drew wq.heap.size 33 (.int .i64 1) (.int .i64 (kk : Int)) (.int .i64 d) := ⟨cbx, ebx⟩
                  refine InC.take (i := 0) (v := .slice (some ⟨wo.heap.size, 0, none⟩) ns ns) rfl (by kernel_rfl) (by kernel_rfl) (by kernel_rfl) (fun _ _ _ h => h) C0 (Or.inl ⟨by rfl, ?_⟩) ?_
                  · intro W hW
                    go_simp
                  refine InC.take (i := 1) (v := .pointer (some ⟨w4.heap.size, 0, none⟩)) rfl (by kernel_rfl) (by kernel_rfl) (by kernel_rfl) (fun _ _ _ h => h) C0 (Or.inl ⟨by rfl, ?_⟩) ?_
                  · intro W hW
                    go_simp
                  refine InC.take (i := 2) (v := .int .i64 (i1 : Int)) rfl (by kernel_rfl) (by kernel_rfl) (by kernel_rfl) (fun _ _ _ h => h) C0 (Or.inl ⟨by rfl, ?_⟩) ?_
                  · intro W hW
                    have k0 := hW.1.cell (i := 0) (by omega)
                    simp only [if_true] at k0
                    go_simp
                  refine InC.take (i := 3) (v := .pointer (some ⟨wo.heap.size, i1, none⟩)) rfl (by kernel_rfl) (by kernel_rfl) (by kernel_rfl) (fun _ _ _ h => h) C0 (Or.inl ⟨by rfl, ?_⟩) ?_
                  · intro W hW
                    go_simp
                  refine InC.take (i := 5) (v := .pointer (some ⟨wq.heap.size, 2, none⟩)) rfl (by kernel_rfl) (by kernel_rfl) (by kernel_rfl) (fun _ _ _ h => h) C0 (Or.inl ⟨by rfl, ?_⟩) ?_
                  · intro W hW
                    go_simp
                  refine InC.take (i := 6) (v := .int .i64 d) rfl (by kernel_rfl) (by kernel_rfl) (by kernel_rfl) (fun _ _ _ h => h) C0 (Or.inl ⟨by rfl, ?_⟩) ?_
                  · intro W hW
                    obtain ⟨e0, e1, e2⟩ := hW.2.cells
                    go_simp
                  have x0 := Blk.cell iB (i := i1) (by omega)
                  simp only [ei1] at x0
                  have q0 := Blk.frozen iB i1
                  have tS := IntB.turn iB i1 (.int .i64 (xi1 - d))
                  have iS := IntB.set iB i1 (xi1 - d)
                  have cbS := Blk.turned cbx tS (.inl (by decide))
                  have ebS := Box3.turned ebx tS (.inl (by decide))
                  have HS : Hid _ := tS
                  have HI : Hid _ := iS
                  have HC : Hid _ := cbS
                  have HE : Hid _ := ebS
                  clear tS iS cbS ebS
                  refine InC.next1 (i := 4) (by kernel_rfl) (InC.one rfl fun K hK => ?_)
                  go_simp
                  refine hK _ _ C0 ?_
                  clear hK K
                  refine InC.next1 (i := 7) (by kernel_rfl) (InC.one rfl fun K hK => ?_)
                  go_simp
                  simp only [wrapS (xi1 - d) (by omega) (by omega)]
                  refine hK _ _ C0 ?_
                  clear hK K
                  refine InC.next1 (i := 8) (by kernel_rfl) (InC.one rfl fun K hK => ?_)
                  go_simp
                  refine hK _ _ C0 ?_
                  clear hK K
                  refine InC.next1 (i := 9) (by kernel_rfl) (InC.one rfl fun K hK => ?_)
                  go_simp
                  refine hK _ _ ⟨HC.out, HE.out⟩ ?_
                  clear hK K
                  refine InC.done (by kernel_rfl) ?_
                  have cb1 := Blk.cell HC.out (i := 1) (by omega)
                  simp only [Nat.one_ne_zero, if_false] at cb1
                  go_upto_region 16 with fail
                  obtain ⟨U3, e3⟩ : ∃ U3, (U.setCell ⟨wo.heap.size, i1, none⟩ (.int .i64 (xi1 - d))).drew = U3 := ⟨_, rfl⟩
                  have iB2 : IntB U3 wo.heap.size ns (fun i => if i = i1 then xi1 - d else Z i) := by rw [← e3]; exact HI.out
                  have cbx2 : Blk U3 w4.heap.size 88 2 (fun i => if i = 0 then .int .i64 (i1 : Int) else .int .i64 (j1 : Int)) := by rw [← e3]; exact HC.out
                  have ebx2 : Box3 U3 wq.heap.size 33 (.int .i64 1) (.int .i64 (kk : Int)) (.int .i64 d) := by rw [← e3]; exact HE.out
                  have tk1 : Turned U U3 (· = 3) wo.heap.size (wo.heap.size + 1) := by rw [← e3]; exact Turned.drew HS.out
                  rw [e3]
                  clear HI HC HE HS cbx ebx C0 x0 q0 cb1 e3
                  have cbx := cbx2
                  have ebx := ebx2
                  clear cbx2 ebx2
                  have z3 := tk1.size
                  have zo3 : wo.heap.size < U3.heap.size := by omega
                  refine wp_region_any (by kernel_rfl) ?_
                  refine InC.any (C := fun W => Blk W w4.heap.size 88 2 (fun i => if i = 0 then .int .i64 (i1 : Int) else .int .i64 (j1 : Int)) ∧ Box3 W wq.heap.size 33 (.int .i64 1) (.int .i64 (kk : Int)) (.int .i64 d)) _ _ _ _ ?_
                  have C0 : Blk U3.drew w4.heap.size 88 2 (fun i => if i = 0 then .int .i64 (i1 : Int) else .int .i64 (j1 : Int)) ∧ Box3 U3.drew wq.heap.size 33 (.int .i64 1) (.int .i64 (kk : Int)) (.int .i64 d) := ⟨cbx, ebx⟩
                  refine InC.take (i := 0) (v := .slice (some ⟨wo.heap.size, 0, none⟩) ns ns) rfl (by kernel_rfl) (by kernel_rfl) (by kernel_rfl) (fun _ _ _ h => h) C0 (Or.inl ⟨by rfl, ?_⟩) ?_
                  · intro W hW
                    go_simp
                  refine InC.take (i := 1) (v := .pointer (some ⟨w4.heap.size, 1, none⟩)) rfl (by kernel_rfl) (by kernel_rfl) (by kernel_rfl) (fun _ _ _ h => h) C0 (Or.inl ⟨by rfl, ?_⟩) ?_
                  · intro W hW
                    go_simp
                  refine InC.take (i := 2) (v := .int .i64 (j1 : Int)) rfl (by kernel_rfl) (by kernel_rfl) (by kernel_rfl) (fun _ _ _ h => h) C0 (Or.inl ⟨by rfl, ?_⟩) ?_
                  · intro W hW
                    have k0 := hW.1.cell (i := 1) (by omega)
                    simp only [Nat.one_ne_zero, if_false] at k0
                    go_simp
                  refine InC.take (i := 3) (v := .pointer (some ⟨wo.heap.size, j1, none⟩)) rfl (by kernel_rfl) (by kernel_rfl) (by kernel_rfl) (fun _ _ _ h => h) C0 (Or.inl ⟨by rfl, ?_⟩) ?_
                  · intro W hW
                    go_simp
                  refine InC.take (i := 5) (v := .pointer (some ⟨wq.heap.size, 2, none⟩)) rfl (by kernel_rfl) (by kernel_rfl) (by kernel_rfl) (fun _ _ _ h => h) C0 (Or.inl ⟨by rfl, ?_⟩) ?_
                  · intro W hW
                    go_simp
                  refine InC.take (i := 6) (v := .int .i64 d) rfl (by kernel_rfl) (by kernel_rfl) (by kernel_rfl) (fun _ _ _ h => h) C0 (Or.inl ⟨by rfl, ?_⟩) ?_
                  · intro W hW
                    obtain ⟨e0, e1, e2⟩ := hW.2.cells
                    go_simp
                  have x0 := Blk.cell iB2 (i := j1) (by omega)
                  simp only [hij, if_false, ej1] at x0
                  have q0 := Blk.frozen iB2 j1
                  have tS := IntB.turn iB2 j1 (.int .i64 (xj1 + d))
                  have iS := IntB.set iB2 j1 (xj1 + d)
                  have cbS := Blk.turned cbx tS (.inl (by decide))
                  have ebS := Box3.turned ebx tS (.inl (by decide))
                  have HS : Hid _ := tS
                  have HI : Hid _ := iS
                  have HC : Hid _ := cbS
                  have HE : Hid _ := ebS
                  clear tS iS cbS ebS
                  refine InC.next1 (i := 4) (by kernel_rfl) (InC.one rfl fun K hK => ?_)
                  go_simp
                  refine hK _ _ C0 ?_
                  clear hK K
                  refine InC.next1 (i := 7) (by kernel_rfl) (InC.one rfl fun K hK => ?_)
                  go_simp
                  simp only [wrapS (xj1 + d) (by omega) (by omega)]
                  refine hK _ _ C0 ?_
                  clear hK K
                  refine InC.next1 (i := 8) (by kernel_rfl) (InC.one rfl fun K hK => ?_)
                  go_simp
                  refine hK _ _ C0 ?_
                  clear hK K
                  refine InC.next1 (i := 9) (by kernel_rfl) (InC.one rfl fun K hK => ?_)
                  go_simp
                  refine hK _ _ ⟨HC.out, HE.out⟩ ?_
                  clear hK K
                  refine InC.done (by kernel_rfl) ?_
                  have key := HI.out
                  have tk := HS.out
                  go_wp2
                  go_roundw
                  case rel =>
                    refine ⟨j + 1, by omega, by go_num, ?_, (hBq.trans (hU.mono (by have := hBq.size; omega))).trans ((Turned.below tk1 (Nat.le_refl _) (by omega)).trans (Turned.below (Turned.drew tk) (Nat.le_refl _) (by omega)))⟩
                    rw [EZ.out]
                    refine Blk.congr key (fun i hi => ?_)
                    rw [ES.out i, EA.out, EB.out]
                    by_cases e : i = j1
                    · subst e
                      have n2 : ¬ (i1 : Int) = (i : Int) := by omega
                      simp [n2, ej1]
                    · have n1 : ¬ (j1 : Int) = (i : Int) := by omega
                      by_cases e2 : i = i1
                      · subst e2
                        simp [e, n1, ei1]
                      · have n2 : ¬ (i1 : Int) = (i : Int) := by omega
                        simp [e, e2, n1, n2]
                  case measure => simp [intOf]; omega
          · have hop' : (op == 1) = false := by simp [hop]
            have eq : stepZ (ns : Int) n F T Z op f d = Z := step_other (fun h => hop h.2)
            have EQ : Hid _ := eq
            clear eq
            go_wp2
            go_roundw
            case rel => exact ⟨j + 1, by omega, by go_num, by rw [EZ.out, EQ.out]; exact Blk.on hB hBa, below_on hBq hBa⟩
            case measure => simp [intOf]; omega
        · have hjk : j = k + 1 := by omega
          subst hjk
          have Bq := below_on Bw hBq
          obtain ⟨A', L, q1, q2, q3, q4⟩ := hI
          have hbX : Below wo.heap.size wo (wr.alloc (.cells #[.slice (some ⟨wo.heap.size, 0, none⟩) ns ns] 91)) := below_alloc hBq _
          have ownU := own_on q1 hbX
          have hnw := cell_one wr (.slice (some ⟨wo.heap.size, 0, none⟩) ns ns) 91
          have h1c : ∀ u ∈ [Value.slice (some ⟨wo.heap.size, 0, none⟩) ns ns], u.oneCell' = true := fun u hu => by
            simp only [List.mem_cons, List.not_mem_nil, or_false] at hu
            subst hu; rfl
          have sR := (IntB.row hB).on (below_alloc (Below.refl wr.heap.size wr) (.cells #[.slice (some ⟨wo.heap.size, 0, none⟩) ns ns] 91))
          have BX := below_on Bw hbX
          have zX := hbX.size
          have q4' : ∀ i, i < k → L i ≤ L (i + 1) ∧ SlF (wr.alloc (.cells #[.slice (some ⟨wo.heap.size, 0, none⟩) ns ns] 91)) 3 1 (L i) (L (i + 1)) (A' i) ns (rowV (trZ (ns : Int) n F T P (i + 1))) := fun i hi => ⟨(q4 i hi).1, (q4 i hi).2.on hbX⟩
          have Q4 : Hid _ := q4'
          have zr : wo.heap.size < wr.heap.size := Blk.lt hB
          clear q4 q4' hbX hB y0 y1
          go_wp2_with (first
            | (at_builtin; refine wpList_append_own _ rfl _ _ 68 rfl V.heap.size 91 i0 _ 1 24 Try.underlying68 hi hz0 hz1 hz2 rfl (by decide) _ _ _ rfl ownU ⟨wr.heap.size, 0, none⟩ 1 1 [.slice (some ⟨wo.heap.size, 0, none⟩) ns ns] rfl rfl hnw h1c (by unfold maxLen; omega) (by omega) BX.size ?_; intro v' w6 hown' hgrow hnil; obtain ⟨g6, cap6, rfl⟩ := own_some hown' (by omega)))
          have tg := own_grown ownU hgrow
          have I6 := RowI.step (Z := fun k => trZ (ns : Int) n F T P (k + 1)) ownU q2 q3 Q4.out sR (by omega) (by omega) hown' hgrow
          have z6 : wo.heap.size + 1 ≤ w6.heap.size := by have := tg.size; simp at this; omega
          go_roundw
          case rel => exact ⟨k + 1, wo.heap.size + 1, by omega, by go_num, I6, z6, BX.trans (tg.below (Nat.le_refl _) BX.size)⟩
          case measure => simp [intOf]; omega
    · have hkm : k = m := by omega
      subst hkm
      go_wp2
      go_ret
      exact ⟨_, rfl, (hI.rows (Nat.le_refl _) htop).wide (by omega), below_on bV Bw⟩

end Go.Proofs.Ytlpopfhaephfaab

namespace Go.Proofs.Ytlpopfhaephfaab
open Go.RowKit Go.Maps

theorem duo {w : World} {g e m n k : Nat} {f : Nat → Value} {P : Nat → Nat → Int} (h : Blk w g e m f) (hm : n * 2 ≤ m) (hk : k < n) (hf : ∀ i, i < n → ∀ j, j < 2 → f (i * 2 + j) = evs P i j) :
    w.cell? ⟨g, k * 2, none⟩ = some (.int .i64 (P k 0)) ∧ w.cell? ⟨g, k * 2 + 1, none⟩ = some (.int .i64 (P k 1)) :=
  ⟨by rw [h.cell (by omega)]; exact congrArg some (hf k hk 0 (by omega)), by rw [h.cell (by omega), hf k hk 1 (by omega)]; rfl⟩

set_option maxHeartbeats 400000 in
theorem eqGap_same (x y : Int) (w : World) :
    Calls Try.prog 85 #[.agg #[.int .i64 x, .int .i64 y], .agg #[.int .i64 x, .int .i64 y]] w fun e w' => e = .returned (.bool true) ∧ Below w.heap.size w w' := by
  go_enter Try.func85, Try.ntmps85
  go_wp2
  go_ret
  exact ⟨rfl, (by repeat (first | exact Below.refl _ _ | assumption | refine below_alloc ?_ _ | refine Below.setCell ?_ (by first | omega | (simp; done) | (simp; omega)) _ | refine Below.alloc ?_ (by first | omega | (simp; done) | (simp; omega)) _ | refine Below.drew ?_))⟩

set_option maxHeartbeats 1000000 in
theorem eqGapS_same (lo hi lo' hi' n : Nat) (v v' : Value) (P : Nat → Nat → Int) (w : World) (hn : n ≤ 1048576) (h : SlF w 121 2 lo hi v n (evs P)) (h' : SlF w 121 2 lo' hi' v' n (evs P)) :
    Calls Try.prog 43 #[v, v'] w fun e w' => e = .returned (.bool true) ∧ Below w.heap.size w w' := by
  obtain ⟨ao, cap, rfl, h0⟩ := h
  obtain ⟨ao', cap', rfl, h0'⟩ := h'
  go_enter Try.func43, Try.ntmps43
  go_wp2
  go_loopw [5] (fun i wr => ∃ k : Nat, k ≤ n ∧ i = .int .i64 k ∧ Below w.heap.size w wr) (fun i _ => n - (intOf i).toNat)
  case atStart => exact ⟨0, Nat.zero_le _, rfl, Below.refl _ _⟩
  case round =>
    obtain ⟨k, hk, rfl, hbel⟩ := hrel
    by_cases hlt : k < n
    · rcases h0 with h0 | ⟨g, mm, f, rfl, _, _, h2, h3, h4⟩
      · omega
      rcases h0' with h0' | ⟨g', mm', f', rfl, _, _, h2', h3', h4'⟩
      · omega
      obtain ⟨c0, c1⟩ := duo (h3.below hbel h3.lt) h2 hlt h4
      obtain ⟨d0, d1⟩ := duo (h3'.below hbel h3'.lt) h2' hlt h4'
      have hi : (k : Int) < (n : Int) := by omega
      have HB : Hid (Below w.heap.size w wr) := hbel
      clear h3 h3' h4 h4' hbel
      go_wp2
      go_region_with (go_at_call 85; refine (eqGap_same _ _ _).mono ?_; rintro e w1 ⟨rfl, hb1⟩)
      all_goals
        go_wp2
        go_roundw
        case rel => exact ⟨k + 1, by omega, by go_num, HB.out.drew.trans (hb1.mono (by simpa using HB.out.size))⟩
        case measure => simp [intOf]; omega
    · go_wp2
      go_ret
      exact ⟨rfl, hbel⟩

/-- what stands in the block behind k rounds of marking -/
def mark2 (q0 : Int) (k : Nat) (f : Nat → Value) : Nat → Value := fun c => if c < k * 2 then .int .i64 (q0 + (c : Int)) else f c

theorem mark2_step (q0 : Int) (k : Nat) (f : Nat → Value) (c : Nat) :
    (if c = k * 2 + 1 then Value.int .i64 (q0 + 2 * (k : Int) + 1) else if c = k * 2 then Value.int .i64 (q0 + 2 * (k : Int)) else mark2 q0 k f c) = mark2 q0 (k + 1) f c := by
  unfold mark2
  split
  · rename_i h; subst h; rw [if_pos (by omega)]; congr 1; omega
  · split
    · rename_i h; subst h; rw [if_pos (by omega)]; congr 1; omega
    · by_cases h : c < k * 2
      · rw [if_pos h, if_pos (by omega)]
      · rw [if_neg h, if_neg (by omega)]

def mkG (q0 : Int) (i j : Nat) : Int := q0 + ((i * 2 + j : Nat) : Int)

set_option maxHeartbeats 1000000 in
theorem markGapS_any (lo hi n : Nat) (v : Value) (q0 : Int) (P : Nat → Nat → Int) (w : World) (hn : n ≤ 1048576) (hq0 : 0 ≤ q0) (hq1 : q0 ≤ 1000000000) (h : SlF w 121 2 lo hi v n (evs P)) :
    Calls Try.prog 44 #[v, .int .i64 q0] w fun e w' => e = .returned (.int .i64 (q0 + 2 * (n : Int))) ∧ SlF w' 121 2 lo hi v n (evs (mkG q0)) ∧ Turned w w' (· = 121) lo hi := by
  obtain ⟨ao, cap, rfl, h0⟩ := h
  rcases h0 with rfl | ⟨g, m, f, rfl, a1, a2, h2, h1, _⟩
  · go_enter Try.func44, Try.ntmps44
    go_wp2
    refine wp_loop_rounds 1 ?_
    rw [rounds_succ]
    go_wp2
    go_ret
    exact ⟨by simp, ⟨ao, cap, rfl, .inl rfl⟩, Turned.refl _ _ _ _⟩
  · go_enter Try.func44, Try.ntmps44
    go_wp2
    go_loopw [1, 5] (fun q i wr => ∃ k : Nat, k ≤ n ∧ i = .int .i64 k ∧ q = .int .i64 (q0 + 2 * (k : Int)) ∧ Blk wr g 121 m (mark2 q0 k f) ∧ w.grownBy wr (some g)) (fun _ i _ => n - (intOf i).toNat)
    case atStart => exact ⟨0, Nat.zero_le _, rfl, by simp, h1.congr (fun i _ => by simp [mark2]), World.grownBy.refl _ _⟩
    case round =>
      obtain ⟨k, hk, rfl, rfl, hB, hG⟩ := hrel
      by_cases hlt : k < n
      · have c0 := hB.cell (i := k * 2) (by omega)
        have c1 := hB.cell (i := k * 2 + 1) (by omega)
        have z0 := hB.frozen (k * 2)
        have z1 := hB.frozen (k * 2 + 1)
        clear h1
        go_wp2
        go_roundw
        case rel => exact ⟨k + 1, by omega, by go_num, by go_num, ((hB.set (k * 2) _).set (k * 2 + 1) _).congr (fun c _ => mark2_step q0 k f c), grown_set (grown_set hG _) _⟩
        case measure => simp [intOf]; omega
      · go_wp2
        go_ret
        have : k = n := by omega
        subst this
        refine ⟨rfl, ⟨_, cap, rfl, .inr ⟨g, m, _, rfl, a1, a2, h2, hB, fun i hi j hj => ?_⟩⟩, Turned.of_grown hG a1 a2 rfl h1⟩
        have := idx_lt hi hj
        simp only [mark2, this, if_true]; rfl

set_option maxHeartbeats 1000000 in
theorem heldGapS_any (lo hi n : Nat) (v : Value) (q0 : Int) (w : World) (hn : n ≤ 1048576) (hq0 : 0 ≤ q0) (hq1 : q0 ≤ 1000000000) (h : SlF w 121 2 lo hi v n (evs (mkG q0))) :
    Calls Try.prog 45 #[v, .int .i64 q0] w fun e w' => e = .returned (.int .i64 (q0 + 2 * (n : Int))) ∧ Below w.heap.size w w' := by
  obtain ⟨ao, cap, rfl, h0⟩ := h
  go_enter Try.func45, Try.ntmps45
  go_wp2
  go_loopw [1, 5] (fun q i wr => ∃ k : Nat, k ≤ n ∧ i = .int .i64 k ∧ q = .int .i64 (q0 + 2 * (k : Int)) ∧ Below w.heap.size w wr) (fun _ i _ => n - (intOf i).toNat)
  case atStart => exact ⟨0, Nat.zero_le _, rfl, by simp, Below.refl _ _⟩
  case round =>
    obtain ⟨k, hk, rfl, rfl, hbel⟩ := hrel
    by_cases hlt : k < n
    · rcases h0 with h0 | ⟨g, m, f, rfl, _, _, h2, h3, h4⟩
      · omega
      obtain ⟨c0, c1⟩ := duo (h3.below hbel h3.lt) h2 hlt h4
      have e0 : mkG q0 k 0 = q0 + 2 * (k : Int) := by unfold mkG; omega
      have e1 : mkG q0 k 1 = q0 + 2 * (k : Int) + 1 := by unfold mkG; omega
      rw [e0] at c0
      rw [e1] at c1
      clear h3 h4 e0 e1
      go_wp2
      go_roundw
      case rel => exact ⟨k + 1, by omega, by go_num, by go_num, hbel⟩
      case measure => simp [intOf]; omega
    · go_wp2
      go_ret
      have : k = n := by omega
      subst this
      exact ⟨rfl, hbel⟩

/-- the cells of a list of gaps -/
def gpC (l : List (Int × Int)) : List Value := l.flatMap fun p => [.int .i64 p.1, .int .i64 p.2]
theorem gpC_len (l : List (Int × Int)) : (gpC l).length = l.length * 2 := by
  induction l with
  | nil => rfl
  | cons a l ih => simp only [gpC, List.flatMap_cons, List.length_append, List.length_cons, List.length_nil] at ih ⊢; omega
theorem gpC_snoc (l : List (Int × Int)) (p : Int × Int) : gpC (l ++ [p]) = gpC l ++ [.int .i64 p.1, .int .i64 p.2] := by simp [gpC]
def gpP (l : List (Int × Int)) (i j : Nat) : Int := if j = 0 then (l.getD i (0, 0)).1 else (l.getD i (0, 0)).2
theorem gpC_get (l : List (Int × Int)) (i j : Nat) (hi : i < l.length) (hj : j < 2) : (gpC l)[i * 2 + j]? = some (evs (gpP l) i j) := by
  induction l generalizing i with
  | nil => simp at hi
  | cons a l ih =>
    simp only [gpC, List.flatMap_cons]
    cases i with
    | zero =>
      rw [List.getElem?_append_left (by simp; omega)]
      rcases (show j = 0 ∨ j = 1 by omega) with rfl | rfl <;> simp [evs, gpP]
    | succ i =>
      rw [List.getElem?_append_right (by simp; omega)]
      simp only [List.length_cons, List.length_nil]
      rw [show (i + 1) * 2 + j - (0 + 1 + 1) = i * 2 + j by omega]
      have := ih i (by simpa using hi)
      simp only [gpC] at this
      rw [this]
      simp [evs, gpP]

/-- whether a section is told free behind the k-th event though somebody is there -/
def gapB (S : Int) (n : Nat) (F T : Nat → Int) (P : Nat → Nat → Int) (k i : Nat) : Bool := decide ((runX S n F T P (k + 1) i).told = 0) && decide (¬ trZ S n F T P (k + 1) i = 0)
/-- the gaps of the k-th event up to a section; of the events up to one -/
def gpR (S : Int) (n : Nat) (F T : Nat → Int) (P : Nat → Nat → Int) (k : Nat) : Nat → List (Int × Int)
  | 0 => []
  | s + 1 => gpR S n F T P k s ++ (if gapB S n F T P k s then [((k : Int), (s : Int))] else [])
def gpA (S : Int) (n : Nat) (F T : Nat → Int) (P : Nat → Nat → Int) (ns : Nat) : Nat → List (Int × Int)
  | 0 => []
  | k + 1 => gpA S n F T P ns k ++ gpR S n F T P k ns
theorem gpR_len (S : Int) (n : Nat) (F T : Nat → Int) (P : Nat → Nat → Int) (k s : Nat) : (gpR S n F T P k s).length ≤ s := by
  induction s with
  | zero => simp [gpR]
  | succ s ih =>
    simp only [gpR, List.length_append]
    split <;> simp <;> omega
theorem gpA_len (S : Int) (n : Nat) (F T : Nat → Int) (P : Nat → Nat → Int) (ns k : Nat) (h : ns ≤ 60) : (gpA S n F T P ns k).length ≤ 60 * k := by
  induction k with
  | zero => simp [gpA]
  | succ k ih =>
    have := gpR_len S n F T P k ns
    simp only [gpA, List.length_append]
    omega

theorem Try.infoGp : (Try.prog.info? 121).map (fun i => (i.zero, i.size, i.bytes)) = some (some (.agg #[.int .i64 0, .int .i64 0]), 2, 16) := by kernel_rfl

theorem new_cells2 (w : World) (a b : Value) (e : TypeId) : ∀ j u, [a, b][j]? = some u → (w.alloc (.cells #[a, b] e)).cell? ((⟨w.heap.size, 0, none⟩ : Addr).add j) = some u := by
  intro j u hu
  have hj : j < 2 := (List.getElem?_eq_some_iff.1 hu).1
  have ea : (⟨w.heap.size, 0, none⟩ : Addr).add j = ⟨w.heap.size, j, none⟩ := by simp [Addr.add]; exact fun h => h.symm
  rw [ea]
  match j, hj with
  | 0, _ => simpa using hu
  | 1, _ => simpa using hu

end Go.Proofs.Ytlpopfhaephfaab
