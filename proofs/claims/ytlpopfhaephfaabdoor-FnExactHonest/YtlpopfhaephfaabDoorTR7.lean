import Derived.Test.YtlpopfhaephfaabDoorTR6
import Derived.Deep.CutBlock
import Derived.Test.YtlpopfhaephfaabDoorEV2
import Derived.Test.YtlpopfhaephfaabDoorRC
namespace Go.Proofs.YtlpopfhaephfaabDoor
open Go.RowKit

theorem wrapS (z : Int) (h1 : -9223372036854775808 ≤ z) (h2 : z ≤ 9223372036854775807) : IntKind.i64.wrap z = z := by
  rw [IntKind.wrap_i64]; omega

theorem Turned.drew {w w' : World} {E : Nat → Prop} {lo hi : Nat} (h : Turned w w' E lo hi) : Turned w w'.drew E lo hi := ⟨h.os, h.tape, h.output, h.size, h.block⟩

theorem specTruth_bad (S : Int) (g n m ce : Nat) (ae : Option Addr) (F T : Nat → Int) (w : World) (hm : m ≤ 1048576) (hrow : Row w g 81 2 n (two F T)) (hb : ¬ (lokZ S n F T = 0 ∧ m ≤ 2000)) :
    Calls Tryd.prog 24 #[.agg #[.int .i64 S, .slice (some ⟨g, 0, none⟩) n n], .slice ae m ce] w fun e w' => e = .returned (.slice none 0 0) ∧ Below w.heap.size w w' := by
  have kc := fun o => specLayoutOk_any S g n F T _ (hrow.alloc o)
  go_enter Tryd.func24, Tryd.ntmps24
  go_wp2_with fail
  refine (kc _).mono ?_
  rintro e w1 ⟨rfl, hb1⟩
  have B1 := below_on (show Below w.heap.size w _ from (by repeat (first | exact Below.refl _ _ | assumption | refine below_alloc ?_ _ | refine Below.setCell ?_ (by first | omega | (simp; done) | (simp; omega)) _ | refine Below.alloc ?_ (by first | omega | (simp; done) | (simp; omega)) _ | refine Below.drew ?_))) hb1
  by_cases hl : lokZ S n F T = 0
  · have h2 : 2000 < (m : Int) := by
      have : ¬ m ≤ 2000 := fun h => hb ⟨hl, h⟩
      omega
    rw [hl]
    go_wp2
    go_ret
    exact ⟨rfl, B1⟩
  · have h1 : (lokZ S n F T == 0) = false := by simp [hl]
    go_wp2
    go_ret
    exact ⟨rfl, B1⟩

/-- an axle's step as the specification counts it -/
theorem step_spec {S d : Int} {n k : Nat} {F T Z : Nat → Int} (hev : evB S n 1 (k : Int) d = true) (hd : d = 1 ∨ d = -1) (s : Nat) : stepZ S n F T Z 1 (k : Int) d s = Z s - (if F k = (s : Int) then d else 0) + (if T k = (s : Int) then d else 0) := by
  unfold stepZ
  rw [if_pos ⟨hev, rfl⟩]
  simp only [Int.toNat_natCast]
  unfold fromZ toZ
  rcases hd with rfl | rfl
  · simp
  · simp only [show ¬ ((-1 : Int) = 1) by omega, if_false]
    split <;> split <;> omega

theorem step_other {S op f d : Int} {n : Nat} {F T Z : Nat → Int} (h : ¬ (evB S n op f d = true ∧ op = 1)) : stepZ S n F T Z op f d = Z := by
  unfold stepZ
  rw [if_neg h]

set_option maxRecDepth 100000 in
set_option maxHeartbeats 4000000 in
theorem specTruth_ok (g n ge m ns : Nat) (F T : Nat → Int) (P : Nat → Nat → Int) (w : World) (hrow : Row w g 81 2 n (two F T)) (hev : Row w ge 51 3 m (evs P)) (hl : lokZ (ns : Int) n F T = 0) (hm : m ≤ 2000) :
    Calls Tryd.prog 24 #[.agg #[.int .i64 (ns : Int), .slice (some ⟨g, 0, none⟩) n n], .slice (some ⟨ge, 0, none⟩) m m] w fun e w' => ∃ u, e = .returned u ∧ RwF w' w.heap.size w'.heap.size u m ns (fun k => trZ (ns : Int) n F T P (k + 1)) ∧ Below w.heap.size w w' := by
  obtain ⟨r1, r2, r3⟩ := lok_range hl
  have hp : 0 < ns := by omega
  have hm1 : ¬ 2000 < (m : Int) := by omega
  obtain ⟨i0, hi, hz0, hz1, hz2⟩ := info_parts Tryd.infoRw
  obtain ⟨Cs, zs, eCs, mk0⟩ := made_ints ns
  have mk := fun W => mk0 W (by omega)
  have kc := fun o => specLayoutOk_any (ns : Int) g n F T _ (hrow.alloc o)
  rw [hl] at kc
  obtain ⟨V, eV⟩ : ∃ V, w.alloc (.cells #[.int .i64 (ns : Int), .slice (some ⟨g, 0, none⟩) n n] 31) = V := ⟨_, rfl⟩
  have sV : V.heap.size = w.heap.size + 1 := by rw [← eV]; simp
  have bV : Below w.heap.size w V := by rw [← eV]; exact (by repeat (first | exact Below.refl _ _ | assumption | refine below_alloc ?_ _ | refine Below.setCell ?_ (by first | omega | (simp; done) | (simp; omega)) _ | refine Below.alloc ?_ (by first | omega | (simp; done) | (simp; omega)) _ | refine Below.drew ?_))
  have bL : Blk V w.heap.size 31 2 (fun i => if i = 0 then .int .i64 (ns : Int) else .slice (some ⟨g, 0, none⟩) n n) := by
    rw [← eV]
    exact Blk.new w #[.int .i64 (ns : Int), .slice (some ⟨g, 0, none⟩) n n] 31 _ (fun i hi => by simp at hi; match i, hi with | 0, _ => rfl | 1, _ => rfl)
  have P0 : ∀ W, Below V.heap.size V W → W.cell? ⟨w.heap.size, 0, none⟩ = some (.int .i64 (ns : Int)) ∧ W.cell? ⟨w.heap.size, 1, none⟩ = some (.slice (some ⟨g, 0, none⟩) n n) := fun W hb => ⟨(bL.on hb).cell (i := 0) (by omega), (bL.on hb).cell (i := 1) (by omega)⟩
  have kc' := kc (.cells #[.int .i64 (ns : Int), .slice (some ⟨g, 0, none⟩) n n] 31)
  rw [eV] at kc'
  have EV : Hid _ := eV
  clear eV bL kc mk0
  go_enter Tryd.func24, Tryd.ntmps24
  go_wp2_with fail
  rw [EV.out]
  refine kc'.mono ?_
  clear kc'
  rintro e w1 ⟨rfl, B1⟩
  have z1 : V.heap.size ≤ w1.heap.size := B1.size
  have I0 : RowI w1 V.heap.size V.heap.size w1.heap.size (.slice none 0 0) 0 ns (fun k => trZ (ns : Int) n F T P (k + 1)) := ⟨fun _ => .slice none 0 0, fun _ => w1.heap.size, World.ownsRow_nil _ _ _ _, z1, Nat.le_refl _, fun i hi => by omega⟩
  go_wp2
  go_loopw [5, 21] (fun q i wr => ∃ (k top : Nat), k ≤ m ∧ i = .int .i64 k ∧ RowI wr V.heap.size V.heap.size top q k ns (fun k => trZ (ns : Int) n F T P (k + 1)) ∧ top ≤ wr.heap.size ∧ Below V.heap.size V wr) (fun _ i _ => m - (intOf i).toNat)
  case atStart => exact ⟨0, w1.heap.size, Nat.zero_le _, rfl, I0, Nat.le_refl _, B1⟩
  case round =>
    clear I0 B1 z1 EV
    obtain ⟨k, top, hk, rfl, hI, htop, Bw⟩ := hrel
    by_cases hlt : k < m
    · have hi1 : (k : Int) < (m : Int) := by omega
      have hi2 : (k : Int) + 1 ≤ (m : Int) := by omega
      obtain ⟨y0, y1⟩ := P0 wr Bw
      have zw : w.heap.size < wr.heap.size := by have := Bw.size; omega
      have b0 : IntB (wr.alloc (.cells Cs 3)) wr.heap.size ns (trZ (ns : Int) n F T P 0) := by
        have := Blk.new wr Cs 3 (fun _ => .int .i64 0) (fun i hi => eCs i (by omega))
        rw [zs] at this
        exact this
      have hBr : Below wr.heap.size wr (wr.alloc (.cells Cs 3)) := below_alloc (Below.refl _ _) _
      go_wp2
      rename World => wo
      go_loopw [32] (fun i wq => ∃ j : Nat, j ≤ k + 1 ∧ i = .int .i64 j ∧ IntB wq wo.heap.size ns (trZ (ns : Int) n F T P j) ∧ Below wo.heap.size wo wq) (fun i _ => k + 1 - (intOf i).toNat)
      case atStart => exact ⟨0, Nat.zero_le _, rfl, b0, hBr⟩
      case round =>
        clear b0 hBr
        obtain ⟨j, hj, rfl, hB, hBq⟩ := hrel
        by_cases hjl : j < k + 1
        · have hj1 : (j : Int) < (k : Int) + 1 := by omega
          have hjm : j < m := by omega
          have Bq := below_on Bw hBq
          obtain ⟨c0, c1, c2⟩ := trio (hev.on (below_on bV Bq)) (Nat.le_refl _) hjm (fun i _ j hj => by rw [idx_div hj, idx_mod hj])
          obtain ⟨y0, y1⟩ := P0 _ Bq
          have eZ : trZ (ns : Int) n F T P (j + 1) = stepZ (ns : Int) n F T (trZ (ns : Int) n F T P j) (P j 0) (P j 1) (P j 2) := rfl
          have hZ := fun s => trZ_bound (ns : Int) n F T P j s
          obtain ⟨op, eop⟩ : ∃ op, P j 0 = op := ⟨_, rfl⟩
          obtain ⟨f, ef⟩ : ∃ f, P j 1 = f := ⟨_, rfl⟩
          obtain ⟨d, ed⟩ : ∃ d, P j 2 = d := ⟨_, rfl⟩
          rw [eop] at c0 eZ
          rw [ef] at c1 eZ
          rw [ed] at c2 eZ
          obtain ⟨Z, eZ0⟩ : ∃ Z, trZ (ns : Int) n F T P j = Z := ⟨_, rfl⟩
          rw [eZ0] at hB eZ
          simp only [eZ0] at hZ
          clear eop ef ed eZ0
          have EZ : Hid _ := eZ
          clear eZ
          rename World => wq
          have zq : w.heap.size < wq.heap.size := by have := Bq.size; omega
          have hBa : Below wq.heap.size wq (wq.alloc (.cells #[.int .i64 op, .int .i64 f, .int .i64 d] 51)) := below_alloc (Below.refl _ _) _
          by_cases hop : op = 1
          · subst hop
            have ke := specEventOk_any (ns : Int) 1 f d g n F T (wq.alloc (.cells #[.int .i64 1, .int .i64 f, .int .i64 d] 51)) ((hrow.on (below_on bV Bq)).alloc _)
            have eE : evOk (ns : Int) n F T 1 f d = evB (ns : Int) n 1 f d := by unfold evOk; rw [hl]; simp
            rw [eE] at ke
            clear eE
            cases hv : evB (ns : Int) n 1 f d
            · rw [hv] at ke
              have eq : stepZ (ns : Int) n F T Z 1 f d = Z := step_other (fun h => by rw [hv] at h; cases h.1)
              have EQ : Hid _ := eq
              clear eq
              go_wp2_with fail
              refine ke.mono ?_
              clear ke
              rintro e w4 ⟨rfl, hb4⟩
              have h4 := below_on hBa hb4
              go_wp2
              go_roundw
              case rel => exact ⟨j + 1, by omega, by go_num, by rw [EZ.out, EQ.out]; exact Blk.on hB h4, below_on hBq h4⟩
              case measure => simp [intOf]; omega
            · rw [hv] at ke
              unfold evB at hv
              rw [if_pos (.inl rfl)] at hv
              simp only [decide_eq_true_eq] at hv
              obtain ⟨h1, h2, hd⟩ := hv
              obtain ⟨kk, rfl⟩ : ∃ kk : Nat, f = (kk : Int) := ⟨f.toNat, by omega⟩
              have hkk : kk < n := by omega
              have hkk' : (kk : Int) < (n : Int) := by omega
              have hs := lok_sides hl kk hkk
              have hv' : evB (ns : Int) n 1 (kk : Int) d = true := by unfold evB; rw [if_pos (.inl rfl)]; simp only [decide_eq_true_eq]; exact ⟨h1, h2, hd⟩
              have ES : Hid (∀ s, _) := fun s => step_spec (F := F) (T := T) (Z := Z) hv' hd s
              go_wp2_with fail
              refine ke.mono ?_
              clear ke
              rintro e w4 ⟨rfl, hb4⟩
              have h4 := below_on hBa hb4
              have R4 := hrow.on (below_on bV (below_on Bq h4))
              have g0 := R4.cell0 hkk (by omega)
              have g1 := R4.cell (j := 1) hkk (by omega)
              simp only [two, if_true, Nat.one_ne_zero, if_false] at g0 g1
              obtain ⟨y0', y1'⟩ := P0 _ (below_on Bq h4)
              have eb4 := (Box3.lay wq (.int .i64 1) (.int .i64 (kk : Int)) (.int .i64 d) 51).on hb4
              obtain ⟨e0, e1, e2⟩ := eb4.cells
              have hB4 : IntB w4 wo.heap.size ns Z := Blk.on hB h4
              obtain ⟨a, ea⟩ : ∃ a, F kk = a := ⟨_, rfl⟩
              obtain ⟨b, eb⟩ : ∃ b, T kk = b := ⟨_, rfl⟩
              rw [ea] at g0 hs
              rw [eb] at g1 hs
              have EA : Hid _ := ea
              have EB : Hid _ := eb
              have zq4 : wq.heap.size < w4.heap.size := Blk.lt eb4
              have zo4 : wo.heap.size < w4.heap.size := Blk.lt hB4
              have zl4 : w.heap.size < w4.heap.size := by omega
              have zg4 : g < w4.heap.size := R4.lt
              have bb1 : -1 ≤ d ∧ d ≤ 1 := by omega
              clear ea eb c0 c1 c2 y0 y1 hBa hb4 hv' R4 hB
              rcases (show a = -1 ∨ 0 ≤ a by omega) with ha | ha
              · subst ha
                have hb0 : 0 ≤ b := by omega
                obtain ⟨j1, rfl⟩ : ∃ j1 : Nat, b = (j1 : Int) := ⟨b.toNat, by omega⟩
                have lj1 : j1 < ns := by omega
                have lj1' : (j1 : Int) < (ns : Int) := by omega
                have pj1 : (0 : Int) ≤ (j1 : Int) := by omega
                obtain ⟨xj1, ej1⟩ : ∃ x, Z j1 = x := ⟨_, rfl⟩
                have hj1 := hZ j1
                rw [ej1] at hj1
                go_upto_region 16 with fail
                obtain ⟨U, eU⟩ : ∃ U, w4.alloc (.cells #[.int .i64 (-1), .int .i64 (j1 : Int)] 81) = U := ⟨_, rfl⟩
                have hbU : Below w4.heap.size w4 U := by rw [← eU]; exact (by repeat (first | exact Below.refl _ _ | assumption | refine below_alloc ?_ _ | refine Below.setCell ?_ (by first | omega | (simp; done) | (simp; omega)) _ | refine Below.alloc ?_ (by first | omega | (simp; done) | (simp; omega)) _ | refine Below.drew ?_))
                have cbx : Blk U w4.heap.size 81 2 (fun i => if i = 0 then .int .i64 (-1) else .int .i64 (j1 : Int)) := by
                  rw [← eU]
                  exact Blk.new w4 #[.int .i64 (-1), .int .i64 (j1 : Int)] 81 _ (fun i hi => by simp at hi; match i, hi with | 0, _ => rfl | 1, _ => rfl)
                rw [eU]
                have ebx := eb4.on hbU
                have iB : IntB U wo.heap.size ns Z := Blk.on hB4 hbU
                have hU := below_on h4 hbU
                have zU := hbU.size
                have zoU : wo.heap.size < U.heap.size := by omega
                clear eU hbU
                refine wp_region_any (by kernel_rfl) ?_
                refine InC.any (C := fun W => Blk W w4.heap.size 81 2 (fun i => if i = 0 then .int .i64 (-1) else .int .i64 (j1 : Int)) ∧ Box3 W wq.heap.size 51 (.int .i64 1) (.int .i64 (kk : Int)) (.int .i64 d)) _ _ _ _ ?_
                have C0 : Blk U.drew w4.heap.size 81 2 (fun i => if i = 0 then .int .i64 (-1) else .int .i64 (j1 : Int)) ∧ Box3 U.drew wq.heap.size 51 (.int .i64 1) (.int .i64 (kk : Int)) (.int .i64 d) := ⟨cbx, ebx⟩
                refine InC.take (i := 0) (v := .slice (some ⟨wo.heap.size, 0, none⟩) ns ns) rfl (by kernel_rfl) (by kernel_rfl) (by kernel_rfl) (fun _ _ _ h => h) C0 (Or.inl ⟨by rfl, ?_⟩) ?_
                · intro W hW
                  go_simp
                refine InC.take (i := 1) (v := .pointer (some ⟨w4.heap.size, 1, none⟩)) rfl (by kernel_rfl) (by kernel_rfl) (by kernel_rfl) (fun _ _ _ h => h) C0 (Or.inl ⟨by rfl, ?_⟩) ?_
                · intro W hW
                  go_simp
                refine InC.take (i := 2) (v := .int .i64 (j1 : Int)) rfl (by kernel_rfl) (by kernel_rfl) (by kernel_rfl) (fun _ _ _ h => h) C0 (Or.inl ⟨by rfl, ?_⟩) ?_
                · intro W hW
                  have k0 := hW.1.cell (i := 1) (by omega)
                  simp only [Nat.one_ne_zero, if_false] at k0
                  go_simp
                refine InC.take (i := 3) (v := .pointer (some ⟨wo.heap.size, j1, none⟩)) rfl (by kernel_rfl) (by kernel_rfl) (by kernel_rfl) (fun _ _ _ h => h) C0 (Or.inl ⟨by rfl, ?_⟩) ?_
                · intro W hW
                  go_simp
                refine InC.take (i := 5) (v := .pointer (some ⟨wq.heap.size, 2, none⟩)) rfl (by kernel_rfl) (by kernel_rfl) (by kernel_rfl) (fun _ _ _ h => h) C0 (Or.inl ⟨by rfl, ?_⟩) ?_
                · intro W hW
                  go_simp
                refine InC.take (i := 6) (v := .int .i64 d) rfl (by kernel_rfl) (by kernel_rfl) (by kernel_rfl) (fun _ _ _ h => h) C0 (Or.inl ⟨by rfl, ?_⟩) ?_
                · intro W hW
                  obtain ⟨e0, e1, e2⟩ := hW.2.cells
                  go_simp
                have x0 := Blk.cell iB (i := j1) (by omega)
                simp only [ej1] at x0
                have q0 := Blk.frozen iB j1
                have tS := IntB.turn iB j1 (.int .i64 (xj1 + d))
                have iS := IntB.set iB j1 (xj1 + d)
                have cbS := Blk.turned cbx tS (.inl (by decide))
                have ebS := Box3.turned ebx tS (.inl (by decide))
                have HS : Hid _ := tS
                have HI : Hid _ := iS
                have HC : Hid _ := cbS
                have HE : Hid _ := ebS
                clear tS iS cbS ebS
                refine InC.next1 (i := 4) (by kernel_rfl) (InC.one rfl fun K hK => ?_)
                go_simp
                refine hK _ _ C0 ?_
                clear hK K
                refine InC.next1 (i := 7) (by kernel_rfl) (InC.one rfl fun K hK => ?_)
                go_simp
                simp only [wrapS (xj1 + d) (by omega) (by omega)]
                refine hK _ _ C0 ?_
                clear hK K
                refine InC.next1 (i := 8) (by kernel_rfl) (InC.one rfl fun K hK => ?_)
                go_simp
                refine hK _ _ C0 ?_
                clear hK K
                refine InC.next1 (i := 9) (by kernel_rfl) (InC.one rfl fun K hK => ?_)
                go_simp
                refine hK _ _ ⟨HC.out, HE.out⟩ ?_
                clear hK K
                refine InC.done (by kernel_rfl) ?_
                have key := HI.out
                have tk := HS.out
                go_wp2
                go_roundw
                case rel =>
                  refine ⟨j + 1, by omega, by go_num, ?_, (hBq.trans (hU.mono (by have := hBq.size; omega))).trans (Turned.below (Turned.drew tk) (Nat.le_refl _) (by omega))⟩
                  rw [EZ.out]
                  refine Blk.congr key (fun i hi => ?_)
                  rw [ES.out i, EA.out, EB.out]
                  by_cases e : i = j1
                  · subst e
                    have n1 : ¬ (-1 : Int) = (i : Int) := by omega
                    simp [n1, ej1]
                  · have n1 : ¬ (-1 : Int) = (i : Int) := by omega
                    have n2 : ¬ (j1 : Int) = (i : Int) := by omega
                    simp [e, n1, n2]
                case measure => simp [intOf]; omega
              · rcases (show b = -1 ∨ 0 ≤ b by omega) with hb0 | hb0
                · subst hb0
                  obtain ⟨i1, rfl⟩ : ∃ i1 : Nat, a = (i1 : Int) := ⟨a.toNat, by omega⟩
                  have li1 : i1 < ns := by omega
                  have li1' : (i1 : Int) < (ns : Int) := by omega
                  have pi1 : (0 : Int) ≤ (i1 : Int) := by omega
                  obtain ⟨xi1, ei1⟩ : ∃ x, Z i1 = x := ⟨_, rfl⟩
                  have hi1 := hZ i1
                  rw [ei1] at hi1
                  go_upto_region 14 with fail
                  obtain ⟨U, eU⟩ : ∃ U, w4.alloc (.cells #[.int .i64 (i1 : Int), .int .i64 (-1)] 81) = U := ⟨_, rfl⟩
                  have hbU : Below w4.heap.size w4 U := by rw [← eU]; exact (by repeat (first | exact Below.refl _ _ | assumption | refine below_alloc ?_ _ | refine Below.setCell ?_ (by first | omega | (simp; done) | (simp; omega)) _ | refine Below.alloc ?_ (by first | omega | (simp; done) | (simp; omega)) _ | refine Below.drew ?_))
                  have cbx : Blk U w4.heap.size 81 2 (fun i => if i = 0 then .int .i64 (i1 : Int) else .int .i64 (-1)) := by
                    rw [← eU]
                    exact Blk.new w4 #[.int .i64 (i1 : Int), .int .i64 (-1)] 81 _ (fun i hi => by simp at hi; match i, hi with | 0, _ => rfl | 1, _ => rfl)
                  rw [eU]
                  have ebx := eb4.on hbU
                  have iB : IntB U wo.heap.size ns Z := Blk.on hB4 hbU
                  have hU := below_on h4 hbU
                  have zU := hbU.size
                  have zoU : wo.heap.size < U.heap.size := by omega
                  clear eU hbU
                  refine wp_region_any (by kernel_rfl) ?_
                  refine InC.any (C := fun W => Blk W w4.heap.size 81 2 (fun i => if i = 0 then .int .i64 (i1 : Int) else .int .i64 (-1)) ∧ Box3 W wq.heap.size 51 (.int .i64 1) (.int .i64 (kk : Int)) (.int .i64 d)) _ _ _ _ ?_
                  have C0 : Blk U.drew w4.heap.size 81 2 (fun i => if i = 0 then .int .i64 (i1 : Int) else .int .i64 (-1)) ∧ Box3 U.drew wq.heap.size 51 (.int .i64 1) (.int .i64 (kk : Int)) (.int .i64 d) := ⟨cbx, ebx⟩
                  refine InC.take (i := 0) (v := .slice (some ⟨wo.heap.size, 0, none⟩) ns ns) rfl (by kernel_rfl) (by kernel_rfl) (by kernel_rfl) (fun _ _ _ h => h) C0 (Or.inl ⟨by rfl, ?_⟩) ?_
                  · intro W hW
                    go_simp
                  refine InC.take (i := 1) (v := .pointer (some ⟨w4.heap.size, 0, none⟩)) rfl (by kernel_rfl) (by kernel_rfl) (by kernel_rfl) (fun _ _ _ h => h) C0 (Or.inl ⟨by rfl, ?_⟩) ?_
                  · intro W hW
                    go_simp
                  refine InC.take (i := 2) (v := .int .i64 (i1 : Int)) rfl (by kernel_rfl) (by kernel_rfl) (by kernel_rfl) (fun _ _ _ h => h) C0 (Or.inl ⟨by rfl, ?_⟩) ?_
                  · intro W hW
                    have k0 := hW.1.cell (i := 0) (by omega)
                    simp only [if_true] at k0
                    go_simp
                  refine InC.take (i := 3) (v := .pointer (some ⟨wo.heap.size, i1, none⟩)) rfl (by kernel_rfl) (by kernel_rfl) (by kernel_rfl) (fun _ _ _ h => h) C0 (Or.inl ⟨by rfl, ?_⟩) ?_
                  · intro W hW
                    go_simp
                  refine InC.take (i := 5) (v := .pointer (some ⟨wq.heap.size, 2, none⟩)) rfl (by kernel_rfl) (by kernel_rfl) (by kernel_rfl) (fun _ _ _ h => h) C0 (Or.inl ⟨by rfl, ?_⟩) ?_
                  · intro W hW
                    go_simp
                  refine InC.take (i := 6) (v := .int .i64 d) rfl (by kernel_rfl) (by kernel_rfl) (by kernel_rfl) (fun _ _ _ h => h) C0 (Or.inl ⟨by rfl, ?_⟩) ?_
                  · intro W hW
                    obtain ⟨e0, e1, e2⟩ := hW.2.cells
                    go_simp
                  have x0 := Blk.cell iB (i := i1) (by omega)
                  simp only [ei1] at x0
                  have q0 := Blk.frozen iB i1
                  have tS := IntB.turn iB i1 (.int .i64 (xi1 - d))
                  have iS := IntB.set iB i1 (xi1 - d)
                  have cbS := Blk.turned cbx tS (.inl (by decide))
                  have ebS := Box3.turned ebx tS (.inl (by decide))
                  have HS : Hid _ := tS
                  have HI : Hid _ := iS
                  have HC : Hid _ := cbS
                  have HE : Hid _ := ebS
                  clear tS iS cbS ebS
                  refine InC.next1 (i := 4) (by kernel_rfl) (InC.one rfl fun K hK => ?_)
                  go_simp
                  refine hK _ _ C0 ?_
                  clear hK K
                  refine InC.next1 (i := 7) (by kernel_rfl) (InC.one rfl fun K hK => ?_)
                  go_simp
                  simp only [wrapS (xi1 - d) (by omega) (by omega)]
                  refine hK _ _ C0 ?_
                  clear hK K
                  refine InC.next1 (i := 8) (by kernel_rfl) (InC.one rfl fun K hK => ?_)
                  go_simp
                  refine hK _ _ C0 ?_
                  clear hK K
                  refine InC.next1 (i := 9) (by kernel_rfl) (InC.one rfl fun K hK => ?_)
                  go_simp
                  refine hK _ _ ⟨HC.out, HE.out⟩ ?_
                  clear hK K
                  refine InC.done (by kernel_rfl) ?_
                  have cb1 := Blk.cell HC.out (i := 1) (by omega)
                  simp only [Nat.one_ne_zero, if_false] at cb1
                  have key := HI.out
                  have tk := HS.out
                  go_wp2
                  go_roundw
                  case rel =>
                    refine ⟨j + 1, by omega, by go_num, ?_, (hBq.trans (hU.mono (by have := hBq.size; omega))).trans (Turned.below (Turned.drew tk) (Nat.le_refl _) (by omega))⟩
                    rw [EZ.out]
                    refine Blk.congr key (fun i hi => ?_)
                    rw [ES.out i, EA.out, EB.out]
                    by_cases e : i = i1
                    · subst e
                      have n1 : ¬ (-1 : Int) = (i : Int) := by omega
                      simp [n1, ei1]
                    · have n1 : ¬ (-1 : Int) = (i : Int) := by omega
                      have n2 : ¬ (i1 : Int) = (i : Int) := by omega
                      simp [e, n1, n2]
                  case measure => simp [intOf]; omega
                · obtain ⟨i1, rfl⟩ : ∃ i1 : Nat, a = (i1 : Int) := ⟨a.toNat, by omega⟩
                  have li1 : i1 < ns := by omega
                  have li1' : (i1 : Int) < (ns : Int) := by omega
                  have pi1 : (0 : Int) ≤ (i1 : Int) := by omega
                  obtain ⟨xi1, ei1⟩ : ∃ x, Z i1 = x := ⟨_, rfl⟩
                  have hi1 := hZ i1
                  rw [ei1] at hi1
                  obtain ⟨j1, rfl⟩ : ∃ j1 : Nat, b = (j1 : Int) := ⟨b.toNat, by omega⟩
                  have lj1 : j1 < ns := by omega
                  have lj1' : (j1 : Int) < (ns : Int) := by omega
                  have pj1 : (0 : Int) ≤ (j1 : Int) := by omega
                  obtain ⟨xj1, ej1⟩ : ∃ x, Z j1 = x := ⟨_, rfl⟩
                  have hj1 := hZ j1
                  rw [ej1] at hj1
                  have hij : ¬ j1 = i1 := by omega
                  go_upto_region 14 with fail
                  obtain ⟨U, eU⟩ : ∃ U, w4.alloc (.cells #[.int .i64 (i1 : Int), .int .i64 (j1 : Int)] 81) = U := ⟨_, rfl⟩
                  have hbU : Below w4.heap.size w4 U := by rw [← eU]; exact (by repeat (first | exact Below.refl _ _ | assumption | refine below_alloc ?_ _ | refine Below.setCell ?_ (by first | omega | (simp; done) | (simp; omega)) _ | refine Below.alloc ?_ (by first | omega | (simp; done) | (simp; omega)) _ | refine Below.drew ?_))
                  have cbx : Blk U w4.heap.size 81 2 (fun i => if i = 0 then .int .i64 (i1 : Int) else .int .i64 (j1 : Int)) := by
                    rw [← eU]
                    exact Blk.new w4 #[.int .i64 (i1 : Int), .int .i64 (j1 : Int)] 81 _ (fun i hi => by simp at hi; match i, hi with | 0, _ => rfl | 1, _ => rfl)
                  rw [eU]
                  have ebx := eb4.on hbU
                  have iB : IntB U wo.heap.size ns Z := Blk.on hB4 hbU
                  have hU := below_on h4 hbU
                  have zU := hbU.size
                  have zoU : wo.heap.size < U.heap.size := by omega
                  clear eU hbU
                  refine wp_region_any (by kernel_rfl) ?_
                  refine InC.any (C := fun W => Blk W w4.heap.size 81 2 (fun i => if i = 0 then .int .i64 (i1 : Int) else .int .i64 (j1 : Int)) ∧ Box3 W wq.heap.size 51 (.int .i64 1) (.int .i64 (kk : Int)) (.int .i64 d)) _ _ _ _ ?_
                  have C0 : Blk U.drew w4.heap.size 81 2 (fun i => if i = 0 then .int .i64 (i1 : Int) else .int .i64 (j1 : Int)) ∧ Box3 U.drew wq.heap.size 51 (.int .i64 1) (.int .i64 (kk : Int)) (.int .i64 d) := ⟨cbx, ebx⟩
                  refine InC.take (i := 0) (v := .slice (some ⟨wo.heap.size, 0, none⟩) ns ns) rfl (by kernel_rfl) (by kernel_rfl) (by kernel_rfl) (fun _ _ _ h => h) C0 (Or.inl ⟨by rfl, ?_⟩) ?_
                  · intro W hW
                    go_simp
                  refine InC.take (i := 1) (v := .pointer (some ⟨w4.heap.size, 0, none⟩)) rfl (by kernel_rfl) (by kernel_rfl) (by kernel_rfl) (fun _ _ _ h => h) C0 (Or.inl ⟨by rfl, ?_⟩) ?_
                  · intro W hW
                    go_simp
                  refine InC.take (i := 2) (v := .int .i64 (i1 : Int)) rfl (by kernel_rfl) (by kernel_rfl) (by kernel_rfl) (fun _ _ _ h => h) C0 (Or.inl ⟨by rfl, ?_⟩) ?_
                  · intro W hW
                    have k0 := hW.1.cell (i := 0) (by omega)
                    simp only [if_true] at k0
                    go_simp
                  refine InC.take (i := 3) (v := .pointer (some ⟨wo.heap.size, i1, none⟩)) rfl (by kernel_rfl) (by kernel_rfl) (by kernel_rfl) (fun _ _ _ h => h) C0 (Or.inl ⟨by rfl, ?_⟩) ?_
                  · intro W hW
                    go_simp
                  refine InC.take (i := 5) (v := .pointer (some ⟨wq.heap.size, 2, none⟩)) rfl (by kernel_rfl) (by kernel_rfl) (by kernel_rfl) (fun _ _ _ h => h) C0 (Or.inl ⟨by rfl, ?_⟩) ?_
                  · intro W hW
                    go_simp
                  refine InC.take (i := 6) (v := .int .i64 d) rfl (by kernel_rfl) (by kernel_rfl) (by kernel_rfl) (fun _ _ _ h => h) C0 (Or.inl ⟨by rfl, ?_⟩) ?_
                  · intro W hW
                    obtain ⟨e0, e1, e2⟩ := hW.2.cells
                    go_simp
                  have x0 := Blk.cell iB (i := i1) (by omega)
                  simp only [ei1] at x0
                  have q0 := Blk.frozen iB i1
                  have tS := IntB.turn iB i1 (.int .i64 (xi1 - d))
                  have iS := IntB.set iB i1 (xi1 - d)
                  have cbS := Blk.turned cbx tS (.inl (by decide))
                  have ebS := Box3.turned ebx tS (.inl (by decide))
                  have HS : Hid _ := tS
                  have HI : Hid _ := iS
                  have HC : Hid _ := cbS
                  have HE : Hid _ := ebS
                  clear tS iS cbS ebS
                  refine InC.next1 (i := 4) (by kernel_rfl) (InC.one rfl fun K hK => ?_)
                  go_simp
                  refine hK _ _ C0 ?_
                  clear hK K
                  refine InC.next1 (i := 7) (by kernel_rfl) (InC.one rfl fun K hK => ?_)
                  go_simp
                  simp only [wrapS (xi1 - d) (by omega) (by omega)]
                  refine hK _ _ C0 ?_
                  clear hK K
                  refine InC.next1 (i := 8) (by kernel_rfl) (InC.one rfl fun K hK => ?_)
                  go_simp
                  refine hK _ _ C0 ?_
                  clear hK K
                  refine InC.next1 (i := 9) (by kernel_rfl) (InC.one rfl fun K hK => ?_)
                  go_simp
                  refine hK _ _ ⟨HC.out, HE.out⟩ ?_
                  clear hK K
                  refine InC.done (by kernel_rfl) ?_
                  have cb1 := Blk.cell HC.out (i := 1) (by omega)
                  simp only [Nat.one_ne_zero, if_false] at cb1
                  go_upto_region 16 with fail
                  obtain ⟨U3, e3⟩ : ∃ U3, (U.setCell ⟨wo.heap.size, i1, none⟩ (.int .i64 (xi1 - d))).drew = U3 := ⟨_, rfl⟩
                  have iB2 : IntB U3 wo.heap.size ns (fun i => if i = i1 then xi1 - d else Z i) := by rw [← e3]; exact HI.out
                  have cbx2 : Blk U3 w4.heap.size 81 2 (fun i => if i = 0 then .int .i64 (i1 : Int) else .int .i64 (j1 : Int)) := by rw [← e3]; exact HC.out
                  have ebx2 : Box3 U3 wq.heap.size 51 (.int .i64 1) (.int .i64 (kk : Int)) (.int .i64 d) := by rw [← e3]; exact HE.out
                  have tk1 : Turned U U3 (· = 3) wo.heap.size (wo.heap.size + 1) := by rw [← e3]; exact Turned.drew HS.out
                  rw [e3]
                  clear HI HC HE HS cbx ebx C0 x0 q0 cb1 e3
                  have cbx := cbx2
                  have ebx := ebx2
                  clear cbx2 ebx2
                  have z3 := tk1.size
                  have zo3 : wo.heap.size < U3.heap.size := by omega
                  refine wp_region_any (by kernel_rfl) ?_
                  refine InC.any (C := fun W => Blk W w4.heap.size 81 2 (fun i => if i = 0 then .int .i64 (i1 : Int) else .int .i64 (j1 : Int)) ∧ Box3 W wq.heap.size 51 (.int .i64 1) (.int .i64 (kk : Int)) (.int .i64 d)) _ _ _ _ ?_
                  have C0 : Blk U3.drew w4.heap.size 81 2 (fun i => if i = 0 then .int .i64 (i1 : Int) else .int .i64 (j1 : Int)) ∧ Box3 U3.drew wq.heap.size 51 (.int .i64 1) (.int .i64 (kk : Int)) (.int .i64 d) := ⟨cbx, ebx⟩
                  refine InC.take (i := 0) (v := .slice (some ⟨wo.heap.size, 0, none⟩) ns ns) rfl (by kernel_rfl) (by kernel_rfl) (by kernel_rfl) (fun _ _ _ h => h) C0 (Or.inl ⟨by rfl, ?_⟩) ?_
                  · intro W hW
                    go_simp
                  refine InC.take (i := 1) (v := .pointer (some ⟨w4.heap.size, 1, none⟩)) rfl (by kernel_rfl) (by kernel_rfl) (by kernel_rfl) (fun _ _ _ h => h) C0 (Or.inl ⟨by rfl, ?_⟩) ?_
                  · intro W hW
                    go_simp
                  refine InC.take (i := 2) (v := .int .i64 (j1 : Int)) rfl (by kernel_rfl) (by kernel_rfl) (by kernel_rfl) (fun _ _ _ h => h) C0 (Or.inl ⟨by rfl, ?_⟩) ?_
                  · intro W hW
                    have k0 := hW.1.cell (i := 1) (by omega)
                    simp only [Nat.one_ne_zero, if_false] at k0
                    go_simp
                  refine InC.take (i := 3) (v := .pointer (some ⟨wo.heap.size, j1, none⟩)) rfl (by kernel_rfl) (by kernel_rfl) (by kernel_rfl) (fun _ _ _ h => h) C0 (Or.inl ⟨by rfl, ?_⟩) ?_
                  · intro W hW
                    go_simp
                  refine InC.take (i := 5) (v := .pointer (some ⟨wq.heap.size, 2, none⟩)) rfl (by kernel_rfl) (by kernel_rfl) (by kernel_rfl) (fun _ _ _ h => h) C0 (Or.inl ⟨by rfl, ?_⟩) ?_
                  · intro W hW
                    go_simp
                  refine InC.take (i := 6) (v := .int .i64 d) rfl (by kernel_rfl) (by kernel_rfl) (by kernel_rfl) (fun _ _ _ h => h) C0 (Or.inl ⟨by rfl, ?_⟩) ?_
                  · intro W hW
                    obtain ⟨e0, e1, e2⟩ := hW.2.cells
                    go_simp
                  have x0 := Blk.cell iB2 (i := j1) (by omega)
                  simp only [hij, if_false, ej1] at x0
                  have q0 := Blk.frozen iB2 j1
                  have tS := IntB.turn iB2 j1 (.int .i64 (xj1 + d))
                  have iS := IntB.set iB2 j1 (xj1 + d)
                  have cbS := Blk.turned cbx tS (.inl (by decide))
                  have ebS := Box3.turned ebx tS (.inl (by decide))
                  have HS : Hid _ := tS
                  have HI : Hid _ := iS
                  have HC : Hid _ := cbS
                  have HE : Hid _ := ebS
                  clear tS iS cbS ebS
                  refine InC.next1 (i := 4) (by kernel_rfl) (InC.one rfl fun K hK => ?_)
                  go_simp
                  refine hK _ _ C0 ?_
                  clear hK K
                  refine InC.next1 (i := 7) (by kernel_rfl) (InC.one rfl fun K hK => ?_)
                  go_simp
                  simp only [wrapS (xj1 + d) (by omega) (by omega)]
                  refine hK _ _ C0 ?_
                  clear hK K
                  refine InC.next1 (i := 8) (by kernel_rfl) (InC.one rfl fun K hK => ?_)
                  go_simp
                  refine hK _ _ C0 ?_
                  clear hK K
                  refine InC.next1 (i := 9) (by kernel_rfl) (InC.one rfl fun K hK => ?_)
                  go_simp
                  refine hK _ _ ⟨HC.out, HE.out⟩ ?_
                  clear hK K
                  refine InC.done (by kernel_rfl) ?_
                  have key := HI.out
                  have tk := HS.out
                  go_wp2
                  go_roundw
                  case rel =>
                    refine ⟨j + 1, by omega, by go_num, ?_, (hBq.trans (hU.mono (by have := hBq.size; omega))).trans ((Turned.below tk1 (Nat.le_refl _) (by omega)).trans (Turned.below (Turned.drew tk) (Nat.le_refl _) (by omega)))⟩
                    rw [EZ.out]
                    refine Blk.congr key (fun i hi => ?_)
                    rw [ES.out i, EA.out, EB.out]
                    by_cases e : i = j1
                    · subst e
                      have n2 : ¬ (i1 : Int) = (i : Int) := by omega
                      simp [n2, ej1]
                    · have n1 : ¬ (j1 : Int) = (i : Int) := by omega
                      by_cases e2 : i = i1
                      · subst e2
                        simp [e, n1, ei1]
                      · have n2 : ¬ (i1 : Int) = (i : Int) := by omega
                        simp [e, e2, n1, n2]
                  case measure => simp [intOf]; omega
          · have hop' : (op == 1) = false := by simp [hop]
            have eq : stepZ (ns : Int) n F T Z op f d = Z := step_other (fun h => hop h.2)
            have EQ : Hid _ := eq
            clear eq
            go_wp2
            go_roundw
            case rel => exact ⟨j + 1, by omega, by go_num, by rw [EZ.out, EQ.out]; exact Blk.on hB hBa, below_on hBq hBa⟩
            case measure => simp [intOf]; omega
        · have hjk : j = k + 1 := by omega
          subst hjk
          have Bq := below_on Bw hBq
          obtain ⟨A', L, q1, q2, q3, q4⟩ := hI
          have hbX : Below wo.heap.size wo (wr.alloc (.cells #[.slice (some ⟨wo.heap.size, 0, none⟩) ns ns] 53)) := below_alloc hBq _
          have ownU := own_on q1 hbX
          have hnw := cell_one wr (.slice (some ⟨wo.heap.size, 0, none⟩) ns ns) 53
          have h1c : ∀ u ∈ [Value.slice (some ⟨wo.heap.size, 0, none⟩) ns ns], u.oneCell' = true := fun u hu => by
            simp only [List.mem_cons, List.not_mem_nil, or_false] at hu
            subst hu; rfl
          have sR := (IntB.row hB).on (below_alloc (Below.refl wr.heap.size wr) (.cells #[.slice (some ⟨wo.heap.size, 0, none⟩) ns ns] 53))
          have BX := below_on Bw hbX
          have zX := hbX.size
          have q4' : ∀ i, i < k → L i ≤ L (i + 1) ∧ SlF (wr.alloc (.cells #[.slice (some ⟨wo.heap.size, 0, none⟩) ns ns] 53)) 3 1 (L i) (L (i + 1)) (A' i) ns (rowV (trZ (ns : Int) n F T P (i + 1))) := fun i hi => ⟨(q4 i hi).1, (q4 i hi).2.on hbX⟩
          have Q4 : Hid _ := q4'
          have zr : wo.heap.size < wr.heap.size := Blk.lt hB
          clear q4 q4' hbX hB y0 y1
          go_wp2_with (first
            | (at_builtin; refine wpList_append_own _ rfl _ _ 48 rfl V.heap.size 53 i0 _ 1 24 Tryd.underlying48 hi hz0 hz1 hz2 rfl (by decide) _ _ _ rfl ownU ⟨wr.heap.size, 0, none⟩ 1 1 [.slice (some ⟨wo.heap.size, 0, none⟩) ns ns] rfl rfl hnw h1c (by unfold maxLen; omega) (by omega) BX.size ?_; intro v' w6 hown' hgrow hnil; obtain ⟨g6, cap6, rfl⟩ := own_some hown' (by omega)))
          have tg := own_grown ownU hgrow
          have I6 := RowI.step (Z := fun k => trZ (ns : Int) n F T P (k + 1)) ownU q2 q3 Q4.out sR (by omega) (by omega) hown' hgrow
          have z6 : wo.heap.size + 1 ≤ w6.heap.size := by have := tg.size; simp at this; omega
          go_roundw
          case rel => exact ⟨k + 1, wo.heap.size + 1, by omega, by go_num, I6, z6, BX.trans (tg.below (Nat.le_refl _) BX.size)⟩
          case measure => simp [intOf]; omega
    · have hkm : k = m := by omega
      subst hkm
      go_wp2
      go_ret
      exact ⟨_, rfl, (hI.rows (Nat.le_refl _) htop).wide (by omega), below_on bV Bw⟩

end Go.Proofs.YtlpopfhaephfaabDoor
