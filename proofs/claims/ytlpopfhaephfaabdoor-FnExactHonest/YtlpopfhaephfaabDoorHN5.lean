import Derived.Test.YtlpopfhaephfaabDoorTR7
import Derived.Test.YtlpopfhaephfaabDoorHN2
import Derived.BigRegion
import Derived.BigQuiet
import Derived.Lib.QuietBelow
import Derived.Deep.CutBlock
namespace Go.Proofs.YtlpopfhaephfaabDoor
open Go.RowKit Go.Sort

theorem sl_blk {w : World} {e sz lo hi g n cap : Nat} {G : Nat → Nat → Value} (h : SlF w e sz lo hi (.slice (some ⟨g, 0, none⟩) n cap) n G) (hn : 0 < n) : ∃ m f, n * sz ≤ m ∧ Blk w g e m f ∧ ∀ i, i < n → ∀ j, j < sz → f (i * sz + j) = G i j := by
  obtain ⟨ao, cp, he, h0 | ⟨g', m, f, rfl, _, _, h2, h3, h4⟩⟩ := h
  · omega
  · simp only [Value.slice.injEq, Option.some.injEq, Addr.mk.injEq] at he
    obtain ⟨⟨rfl, _⟩, _⟩ := he
    exact ⟨m, f, h2, h3, h4⟩
theorem sl_addr {w : World} {e sz lo hi n cap : Nat} {ao : Option Addr} {G : Nat → Nat → Value} (h : SlF w e sz lo hi (.slice ao n cap) n G) (hn : 0 < n) : ∃ g, ao = some ⟨g, 0, none⟩ := by
  obtain ⟨a', cp, he, h0 | ⟨g', m, f, rfl, _⟩⟩ := h
  · omega
  · simp only [Value.slice.injEq] at he
    exact ⟨g', he.1⟩

theorem specHonest_bad (S : Int) (g n m ce : Nat) (ae : Option Addr) (F T : Nat → Int) (w : World) (hm : m ≤ 1048576) (hrow : Row w g 81 2 n (two F T)) (hb : ¬ (lokZ S n F T = 0 ∧ m ≤ 2000)) :
    Calls Tryd.prog 8 #[.agg #[.int .i64 S, .slice (some ⟨g, 0, none⟩) n n], .slice ae m ce] w fun e w' => e = .returned (.bool false) ∧ Below w.heap.size w w' := by
  have kc := fun o => specLayoutOk_any S g n F T _ (hrow.alloc o)
  go_enter Tryd.func8, Tryd.ntmps8
  go_wp2_with fail
  refine (kc _).mono ?_
  rintro e w1 ⟨rfl, hb1⟩
  have B1 := below_on (show Below w.heap.size w _ from (by repeat (first | exact Below.refl _ _ | assumption | refine below_alloc ?_ _ | refine Below.setCell ?_ (by first | omega | (simp; done) | (simp; omega)) _ | refine Below.alloc ?_ (by first | omega | (simp; done) | (simp; omega)) _ | refine Below.drew ?_))) hb1
  by_cases hl : lokZ S n F T = 0
  · have h2 : 2000 < (m : Int) := by
      have : ¬ m ≤ 2000 := fun h => hb ⟨hl, h⟩
      omega
    rw [hl]
    go_wp2
    go_ret
    exact ⟨rfl, B1⟩
  · have h1 : (lokZ S n F T == 0) = false := by simp [hl]
    go_wp2
    go_ret
    exact ⟨rfl, B1⟩

/-- the answer of spec.Honest: no event lies -/
def honS (n ns m : Nat) (F T : Nat → Int) (P : Nat → Nat → Int) (w : World) (e : Ending) (w' : World) : Prop := ∃ b, e = .returned (.bool b) ∧ (b = true ↔ ∀ k, k < m → lieE (ns : Int) n ns (trZ (ns : Int) n F T P (k + 1)) (P k 0) (P k 1) (P k 2) = none) ∧ Below w.heap.size w w'

set_option maxRecDepth 100000 in
set_option maxHeartbeats 4000000 in
theorem specHonest_ok (g n ge m ns : Nat) (F T : Nat → Int) (P : Nat → Nat → Int) (w : World) (hrow : Row w g 81 2 n (two F T)) (hev : Row w ge 51 3 m (evs P)) (hl : lokZ (ns : Int) n F T = 0) (hm : m ≤ 2000) :
    Calls Tryd.prog 8 #[.agg #[.int .i64 (ns : Int), .slice (some ⟨g, 0, none⟩) n n], .slice (some ⟨ge, 0, none⟩) m m] w fun e w' => honS n ns m F T P w e w' := by
  obtain ⟨r1, r2, r3⟩ := lok_range hl
  have hp : 0 < ns := by omega
  have hm1 : ¬ 2000 < (m : Int) := by omega
  have kc := fun o => specLayoutOk_any (ns : Int) g n F T _ (hrow.alloc o)
  rw [hl] at kc
  have kt := fun W hr hv => specTruth_ok g n ge m ns F T P W hr hv hl hm
  obtain ⟨V, eV⟩ : ∃ V, w.alloc (.cells #[.int .i64 (ns : Int), .slice (some ⟨g, 0, none⟩) n n] 31) = V := ⟨_, rfl⟩
  have sV : V.heap.size = w.heap.size + 1 := by rw [← eV]; simp
  have bV : Below w.heap.size w V := by rw [← eV]; exact (by repeat (first | exact Below.refl _ _ | assumption | refine below_alloc ?_ _ | refine Below.setCell ?_ (by first | omega | (simp; done) | (simp; omega)) _ | refine Below.alloc ?_ (by first | omega | (simp; done) | (simp; omega)) _ | refine Below.drew ?_))
  have bL : Blk V w.heap.size 31 2 (fun i => if i = 0 then .int .i64 (ns : Int) else .slice (some ⟨g, 0, none⟩) n n) := by
    rw [← eV]
    exact Blk.new w #[.int .i64 (ns : Int), .slice (some ⟨g, 0, none⟩) n n] 31 _ (fun i hi => by simp at hi; match i, hi with | 0, _ => rfl | 1, _ => rfl)
  have P0 : ∀ W, Below V.heap.size V W → W.cell? ⟨w.heap.size, 0, none⟩ = some (.int .i64 (ns : Int)) ∧ W.cell? ⟨w.heap.size, 1, none⟩ = some (.slice (some ⟨g, 0, none⟩) n n) := fun W hb => ⟨(bL.on hb).cell (i := 0) (by omega), (bL.on hb).cell (i := 1) (by omega)⟩
  have kc' := kc (.cells #[.int .i64 (ns : Int), .slice (some ⟨g, 0, none⟩) n n] 31)
  rw [eV] at kc'
  have EV : Hid _ := eV
  clear eV bL kc
  go_enter Tryd.func8, Tryd.ntmps8
  go_wp2_with fail
  rw [EV.out]
  refine kc'.mono ?_
  clear kc'
  rintro e w1 ⟨rfl, B1⟩
  obtain ⟨y0, y1⟩ := P0 w1 B1
  go_wp2_with fail
  refine (kt _ (hrow.on (below_on bV B1)) (Row.on hev (below_on bV B1))).mono ?_
  rintro e w2 ⟨u, rfl, R2, hb2⟩
  have B2 := below_on B1 hb2
  obtain ⟨A, L, ⟨ar, cr, rfl, hr0⟩, _, _, hrw⟩ := R2
  clear kt y0 y1 B1 hb2
  go_wp2
  go_loopw [23] (fun i wr => ∃ k : Nat, k ≤ m ∧ i = .int .i64 k ∧ (∀ j, j < k → lieE (ns : Int) n ns (trZ (ns : Int) n F T P (j + 1)) (P j 0) (P j 1) (P j 2) = none) ∧ Below w2.heap.size w2 wr) (fun i _ => m - (intOf i).toNat)
  case atStart => exact ⟨0, Nat.zero_le _, rfl, fun j hj => by omega, Below.refl _ _⟩
  case round =>
    obtain ⟨k, hk, rfl, hgood, Bw⟩ := hrel
    by_cases hlt : k < m
    · have hi1 : (k : Int) < (m : Int) := by omega
      have BwV := below_on B2 Bw
      have Bww := below_on bV BwV
      obtain ⟨c0, c1, c2⟩ := trio (Row.on hev Bww) (Nat.le_refl _) hlt (fun i _ j hj => by rw [idx_div hj, idx_mod hj])
      rcases hr0 with hr0 | ⟨gr, mr, fr, rfl, _, _, t2, t3, t4⟩
      · omega
      have s3 := (hrw k hlt).2
      obtain ⟨x3, y3, e3, _⟩ := id s3
      have a0 := oneA (t3.on Bw) t2 hlt t4
      rw [e3] at s3 a0
      obtain ⟨gw, rfl⟩ := sl_addr s3 hp
      obtain ⟨m6, f6, v1, v2, v3⟩ := sl_blk s3 hp
      obtain ⟨Z, eZ⟩ : ∃ Z, trZ (ns : Int) n F T P (k + 1) = Z := ⟨_, rfl⟩
      have hno : ¬ lieE (ns : Int) n ns Z (P k 0) (P k 1) (P k 2) = none → ¬ ∀ j, j < m → lieE (ns : Int) n ns (trZ (ns : Int) n F T P (j + 1)) (P j 0) (P j 1) (P j 2) = none := fun h h' => h (by rw [← eZ]; exact h' k hlt)
      have hst : lieE (ns : Int) n ns Z (P k 0) (P k 1) (P k 2) = none → ∀ j, j < k + 1 → lieE (ns : Int) n ns (trZ (ns : Int) n F T P (j + 1)) (P j 0) (P j 1) (P j 2) = none := fun h j hj => by
        rcases (show j < k ∨ j = k by omega) with h9 | h9
        · exact hgood j h9
        · subst h9; rw [eZ]; exact h
      rw [eZ] at v3
      obtain ⟨op, eop⟩ : ∃ op, P k 0 = op := ⟨_, rfl⟩
      obtain ⟨f, ef⟩ : ∃ f, P k 1 = f := ⟨_, rfl⟩
      obtain ⟨d, ed⟩ : ∃ d, P k 2 = d := ⟨_, rfl⟩
      rw [eop] at c0 hst hno
      rw [ef] at c1 hst hno
      rw [ed] at c2 hst hno
      have hU : Below wr.heap.size wr (wr.alloc (.cells #[.int .i64 op, .int .i64 f, .int .i64 d] 51)) := below_alloc (Below.refl _ _) _
      have be := Box3.lay wr (.int .i64 op) (.int .i64 f) (.int .i64 d) 51
      have zwr : w.heap.size < wr.heap.size := by have := BwV.size; omega
      go_upto_region 7 with fail
      obtain ⟨U, eU⟩ : ∃ U, wr.alloc (.cells #[.int .i64 op, .int .i64 f, .int .i64 d] 51) = U := ⟨_, rfl⟩
      rw [eU] at hU be ⊢
      have bU := below_on Bw hU
      obtain ⟨y0, y1⟩ := P0 U (below_on B2 bU)
      obtain ⟨b0, b1, b2⟩ := be.cells
      have a1 := oneA (t3.on bU) t2 hlt t4
      rw [e3] at a1
      have rU := hrow.on (below_on bV (below_on B2 bU))
      have eE : evOk (ns : Int) n F T op f d = evB (ns : Int) n op f d := by unfold evOk; rw [hl]; simp
      have ce : ∀ dd os, _ := fun dd os => Calls.regrown_of (specEventOk_any (ns : Int) op f d g n F T (grow (redrawn U dd) os) (rU.on (below_regrown U dd os)))
      rw [eE] at ce
      have ky0 := cell_regrown y0
      have ky1 := cell_regrown y1
      have kb0 := cell_regrown b0
      have kb1 := cell_regrown b1
      have kb2 := cell_regrown b2
      have ka1 := cell_regrown a1
      have hdef : lieE (ns : Int) n ns Z op f d = if evB (ns : Int) n op f d = false then some 1 else if op = 5 ∧ ¬ Z f.toNat = 0 then some 2 else if (List.range ns).any (fun s => decide (Z s < 0)) then some 3 else none := rfl
      have HNO : Hid _ := hno
      have HST : Hid _ := hst
      have HDF : Hid _ := hdef
      have zc := fun s (hs : s < ns) => oneZ (v2.on bU) v1 hs v3
      have lgr : gr < U.heap.size := Nat.lt_of_lt_of_le t3.lt bU.size
      have HBU : Hid (Below w2.heap.size w2 U) := bU
      have HB2 : Hid (Below w.heap.size w w2) := below_on bV B2
      clear eU hU be y0 y1 b0 b1 b2 a0 a1 rU eE hno hst hdef Bw BwV Bww c0 c1 c2 t3 t4 s3 e3 eop ef ed hgood bU B2 eZ
      cases hv : evB (ns : Int) n op f d
      · rw [hv] at ce
        refine wp_region_quiet_below (by kernel_rfl) (by kernel_rfl) ?_
        repeat (go_big_quiet_step (first | with_reducible exact ce _ _))
        refine wpQuiet_nil ?_
        intro _ hw'
        obtain ⟨⟨dq, osq⟩, hw''⟩ := hw'
        have hBq := below_regrown U dq osq
        subst hw''
        clear ky0 ky1 kb0 kb1 kb2 ka1 ce
        generalize grow (redrawn U dq) osq = wq at *
        go_wp2
        go_ret
        exact ⟨false, rfl, ⟨fun h => (by cases h), fun h => absurd h (HNO.out (by rw [HDF.out, if_pos hv]; intro h; cases h))⟩, below_on HB2.out (below_on HBU.out hBq)⟩
      · rw [hv] at ce
        have hv' := hv
        by_cases h5 : op = 5
        · subst h5
          unfold evB at hv
          rw [if_neg (by omega), if_neg (by omega), if_pos rfl] at hv
          simp only [decide_eq_true_eq] at hv
          obtain ⟨h1, h2, rfl⟩ := hv
          obtain ⟨kk, rfl⟩ : ∃ kk : Nat, f = (kk : Int) := ⟨f.toNat, by omega⟩
          have hkk : kk < ns := by omega
          have hkk' : (kk : Int) < (ns : Int) := by omega
          have zk := zc kk hkk
          obtain ⟨x, ex⟩ : ∃ x, Z kk = x := ⟨_, rfl⟩
          rw [ex] at zk
          have kz := cell_regrown zk
          have EX : Hid _ := ex
          clear ex zk zc
          by_cases hx : x = 0
          · subst hx
            have hno5 : ¬ ((5 : Int) = 5 ∧ ¬ Z (Int.toNat (kk : Int)) = 0) := fun h => h.2 (by simpa using EX.out)
            refine wp_region_quiet_below (by kernel_rfl) (by kernel_rfl) ?_
            repeat (go_big_quiet_step (first | with_reducible exact ce _ _))
            refine wpQuiet_nil ?_
            intro _ hw'
            obtain ⟨⟨dq, osq⟩, hw''⟩ := hw'
            have hBq := below_regrown U dq osq
            have aq := ka1 dq osq
            subst hw''
            clear ky0 ky1 kb0 kb1 kb2 ka1 ce kz
            generalize grow (redrawn U dq) osq = wq at *
            have BQ := below_on HBU.out hBq
            have v2q := v2.on BQ
            go_wp2
            go_loopw [53] (fun i w4 => ∃ s : Nat, s ≤ ns ∧ i = .int .i64 s ∧ (∀ j, j < s → ¬ Z j < 0) ∧ Below wq.heap.size wq w4) (fun i _ => ns - (intOf i).toNat)
            case atStart => exact ⟨0, Nat.zero_le _, rfl, fun j hj => by omega, Below.refl _ _⟩
            case round =>
              rename World => w4
              obtain ⟨s, hs, rfl, hpos, B4⟩ := hrel
              by_cases hsl : s < ns
              · have hs1 : (s : Int) < (ns : Int) := by omega
                have g0 := oneZ (v2q.on B4) v1 hsl v3
                obtain ⟨z, ez⟩ : ∃ z, Z s = z := ⟨_, rfl⟩
                rw [ez] at g0
                have EZ : Hid _ := ez
                have HPO : Hid _ := hpos
                clear ez hpos
                by_cases hz : z < 0
                · have bad : lieE (ns : Int) n ns Z 5 (kk : Int) 0 = some 3 := by
                    rw [HDF.out, if_neg (by rw [hv']; decide), if_neg hno5, if_pos (List.any_eq_true.2 ⟨s, List.mem_range.2 hsl, by rw [EZ.out]; simpa using hz⟩)]
                  have HBD : Hid _ := bad
                  clear bad
                  go_wp2
                  go_ret
                  exact ⟨false, rfl, ⟨fun h => (by cases h), fun h => absurd h (HNO.out (by rw [HBD.out]; intro h; cases h))⟩, below_on HB2.out (below_on BQ B4)⟩
                · go_wp2
                  go_roundw
                  case rel =>
                    refine ⟨s + 1, by omega, by go_num, fun j hj => ?_, B4⟩
                    rcases (show j < s ∨ j = s by omega) with h9 | h9
                    · exact HPO.out j h9
                    · subst h9; rw [EZ.out]; omega
                  case measure => simp [intOf]; omega
              · have hsn : s = ns := by omega
                subst hsn
                have good : lieE (s : Int) n s Z 5 (kk : Int) 0 = none := by
                  rw [HDF.out, if_neg (by rw [hv']; decide), if_neg hno5, if_neg]
                  rw [List.any_eq_true]
                  rintro ⟨j, h1, h2⟩
                  exact hpos j (List.mem_range.1 h1) (by simpa using h2)
                have HG : Hid _ := HST.out good
                clear good
                go_wp2
                go_roundw
                case rel => exact ⟨k + 1, by omega, by go_num, HG.out, below_on BQ B4⟩
                case measure => simp [intOf]; omega
          · have hx' : (x == 0) = false := by simp [hx]
            refine wp_region_quiet_below (by kernel_rfl) (by kernel_rfl) ?_
            repeat (go_big_quiet_step (first | with_reducible exact ce _ _))
            refine wpQuiet_nil ?_
            intro _ hw'
            obtain ⟨⟨dq, osq⟩, hw''⟩ := hw'
            have hBq := below_regrown U dq osq
            have aq := ka1 dq osq
            subst hw''
            clear ky0 ky1 kb0 kb1 kb2 ka1 ce kz
            generalize grow (redrawn U dq) osq = wq at *
            have bad : lieE (ns : Int) n ns Z 5 (kk : Int) 0 = some 2 := by
              rw [HDF.out, if_neg (by rw [hv']; decide), if_pos ⟨rfl, fun h => hx (by rw [← EX.out]; simpa using h)⟩]
            have HBD : Hid _ := bad
            clear bad
            go_wp2
            go_ret
            exact ⟨false, rfl, ⟨fun h => (by cases h), fun h => absurd h (HNO.out (by rw [HBD.out]; intro h; cases h))⟩, below_on HB2.out (below_on HBU.out hBq)⟩
        · have h5' : (op == 5) = false := by simp [h5]
          have hno5 : ¬ (op = 5 ∧ ¬ Z f.toNat = 0) := fun h => h5 h.1
          clear zc
          refine wp_region_quiet_below (by kernel_rfl) (by kernel_rfl) ?_
          repeat (go_big_quiet_step (first | with_reducible exact ce _ _))
          refine wpQuiet_nil ?_
          intro _ hw'
          obtain ⟨⟨dq, osq⟩, hw''⟩ := hw'
          have hBq := below_regrown U dq osq
          have aq := ka1 dq osq
          subst hw''
          clear ky0 ky1 kb0 kb1 kb2 ka1 ce 
          generalize grow (redrawn U dq) osq = wq at *
          have BQ := below_on HBU.out hBq
          have v2q := v2.on BQ
          go_wp2
          go_loopw [53] (fun i w4 => ∃ s : Nat, s ≤ ns ∧ i = .int .i64 s ∧ (∀ j, j < s → ¬ Z j < 0) ∧ Below wq.heap.size wq w4) (fun i _ => ns - (intOf i).toNat)
          case atStart => exact ⟨0, Nat.zero_le _, rfl, fun j hj => by omega, Below.refl _ _⟩
          case round =>
            rename World => w4
            obtain ⟨s, hs, rfl, hpos, B4⟩ := hrel
            by_cases hsl : s < ns
            · have hs1 : (s : Int) < (ns : Int) := by omega
              have g0 := oneZ (v2q.on B4) v1 hsl v3
              obtain ⟨z, ez⟩ : ∃ z, Z s = z := ⟨_, rfl⟩
              rw [ez] at g0
              have EZ : Hid _ := ez
              have HPO : Hid _ := hpos
              clear ez hpos
              by_cases hz : z < 0
              · have bad : lieE (ns : Int) n ns Z op f d = some 3 := by
                  rw [HDF.out, if_neg (by rw [hv']; decide), if_neg hno5, if_pos (List.any_eq_true.2 ⟨s, List.mem_range.2 hsl, by rw [EZ.out]; simpa using hz⟩)]
                have HBD : Hid _ := bad
                clear bad
                go_wp2
                go_ret
                exact ⟨false, rfl, ⟨fun h => (by cases h), fun h => absurd h (HNO.out (by rw [HBD.out]; intro h; cases h))⟩, below_on HB2.out (below_on BQ B4)⟩
              · go_wp2
                go_roundw
                case rel =>
                  refine ⟨s + 1, by omega, by go_num, fun j hj => ?_, B4⟩
                  rcases (show j < s ∨ j = s by omega) with h9 | h9
                  · exact HPO.out j h9
                  · subst h9; rw [EZ.out]; omega
                case measure => simp [intOf]; omega
            · have hsn : s = ns := by omega
              subst hsn
              have good : lieE (s : Int) n s Z op f d = none := by
                rw [HDF.out, if_neg (by rw [hv']; decide), if_neg hno5, if_neg]
                rw [List.any_eq_true]
                rintro ⟨j, h1, h2⟩
                exact hpos j (List.mem_range.1 h1) (by simpa using h2)
              have HG : Hid _ := HST.out good
              clear good
              go_wp2
              go_roundw
              case rel => exact ⟨k + 1, by omega, by go_num, HG.out, below_on BQ B4⟩
              case measure => simp [intOf]; omega
    · have hkm : k = m := by omega
      subst hkm
      go_wp2
      go_ret
      exact ⟨true, rfl, ⟨fun _ => hgood, fun _ => rfl⟩, below_on bV (below_on B2 Bw)⟩

end Go.Proofs.YtlpopfhaephfaabDoor
