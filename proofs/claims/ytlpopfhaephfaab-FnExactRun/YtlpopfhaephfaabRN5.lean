import Derived.Test.YtlpopfhaephfaabRN4
namespace Go.Proofs.Ytlpopfhaephfaab
open Go.RowKit Go.Maps Go.Sort

theorem hnewo (w : World) (o : Obj) : (w.alloc o).heap[w.heap.size]? = some o := by
  unfold World.alloc
  simp

theorem implRun_bad (S : Int) (g n m ce : Nat) (ae : Option Addr) (F T : Nat → Int) (w : World) (hm : m ≤ 1048576) (hrow : Row w g 88 2 n (two F T)) (hb : ¬ (lokZ S n F T = 0 ∧ m ≤ 2000)) :
    Calls Try.prog 30 #[.agg #[.int .i64 S, .slice (some ⟨g, 0, none⟩) n n], .slice ae m ce] w fun e w' => e = .returned (.slice none 0 0) ∧ Below w.heap.size w w' := by
  have kc := fun o => runOk_any S g n m ce ae F T _ hm (hrow.alloc o)
  have e0 : (lokZ S n F T == 0 && decide (m ≤ 2000)) = false := by
    cases h1 : (lokZ S n F T == 0)
    · rfl
    · simp only [beq_iff_eq] at h1
      simp only [Bool.true_and, decide_eq_false_iff_not]
      exact fun h => hb ⟨h1, h⟩
  rw [e0] at kc
  go_enter Try.func30, Try.ntmps30
  go_wp2_with fail
  refine (kc _).mono ?_
  rintro e w1 ⟨rfl, hb1⟩
  have B1 := below_on (show Below w.heap.size w _ from (by repeat (first | exact Below.refl _ _ | assumption | refine below_alloc ?_ _ | refine Below.setCell ?_ (by first | omega | (simp; done) | (simp; omega)) _ | refine Below.alloc ?_ (by first | omega | (simp; done) | (simp; omega)) _ | refine Below.drew ?_))) hb1
  go_wp2
  go_ret
  exact ⟨rfl, B1⟩

theorem implBegin_nice (S : Int) (g n ns : Nat) (F T : Nat → Int) (w : World) (hrow : Row w g 88 2 n (two F T)) (hl : lokZ S n F T = 0) (hS : (ns : Int) = S) :
    Calls Try.prog 76 #[.agg #[.int .i64 S, .slice (some ⟨g, 0, none⟩) n n]] w fun e w' => ∃ a1 c1 a2 c2, e = .returned (.agg #[.bool true, .slice a1 ns c1, .slice a2 n c2]) ∧ Lst w' w.heap.size w'.heap.size (.slice a1 ns c1) ns (fun _ => sec0) (.slice a2 n c2) n (fun _ => false) ∧ Below w.heap.size w w' := by
  refine (implBegin_ok S g n F T w hrow hl).mono ?_
  rintro e w' ⟨v, rfl, hB, hb⟩
  unfold BegF at hB
  simp only [if_true] at hB
  rw [show S.toNat = ns by omega] at hB
  obtain ⟨_, _, rfl, h1, h2⟩ := hB
  obtain ⟨a1, c1, rfl, _⟩ := id h1
  obtain ⟨a2, c2, rfl, _⟩ := id h2
  exact ⟨a1, c1, a2, c2, rfl, ⟨h1, h2⟩, hb⟩

/-- a board's box as it is laid -/
theorem bd_box (W : World) : Blk (W.alloc (.cells #[.int .i64 0, .slice none 0 0, .map none, .bool false, .slice none 0 0, .slice none 0 0] 101)) W.heap.size 101 6 (fun i => #[.int .i64 0, .slice none 0 0, .map none, .bool false, .slice none 0 0, .slice none 0 0][i]!) :=
  Blk.new W #[.int .i64 0, .slice none 0 0, .map none, .bool false, .slice none 0 0, .slice none 0 0] _ _ (fun i hi => by simp at hi; match i, hi with | 0, _ => rfl | 1, _ => rfl | 2, _ => rfl | 3, _ => rfl | 4, _ => rfl | 5, _ => rfl)

theorem bd_end {w2 W : World} {bb : Nat} {f : Nat → Value} {S : Int} {g n B ns lo hi : Nat} {F T : Nat → Int} {X : Nat → Sec} {D : Nat → Bool} {v1 v2 : Value} (hZ : Blk W bb 101 6 f) (hb : Below w2.heap.size w2 W) (h1 : w2.heap.size ≤ bb) (gB : Grp W B (2 * n) (zsAt F T n)) (hL : Lst W lo hi v1 ns X v2 n D) (hlo : w2.heap.size ≤ lo) (hlh : lo ≤ hi) (hhi : hi ≤ W.heap.size) :
    ∀ U, U = ((((((W.setCell ⟨bb, 0, none⟩ (.int .i64 S)).setCell ⟨bb, 1, none⟩ (.slice (some ⟨g, 0, none⟩) n n)).setCell ⟨bb, 2, none⟩ (.map (some B))).setCell ⟨bb, 3, none⟩ (.bool true)).setCell ⟨bb, 4, none⟩ v1).setCell ⟨bb, 5, none⟩ v2) →
    ∃ bb' B' v1' v2' lo' hi', Value.pointer (some ⟨bb, 0, none⟩) = .pointer (some ⟨bb', 0, none⟩) ∧ w2.heap.size ≤ bb' ∧ Bd6 U bb' S g n B' true v1' v2' ∧ Grp U B' (2 * n) (zsAt F T n) ∧ Lst U lo' hi' v1' ns X v2' n D ∧ w2.heap.size ≤ lo' ∧ lo' ≤ hi' ∧ hi' ≤ U.heap.size ∧ Below w2.heap.size w2 U := by
  rintro U rfl
  obtain ⟨k1, k2⟩ := bd6_sets hZ S g n B true v1 v2
  exact ⟨bb, B, v1, v2, lo, hi, rfl, h1, k1, gB.turned k2 (by decide), ⟨hL.1.turned k2 (.inl (by decide)), hL.2.turned k2 (.inl (by decide))⟩, hlo, hlh, Nat.le_trans hhi k2.size, hb.trans (k2.below h1 hb.size)⟩

set_option maxRecDepth 100000 in
set_option maxHeartbeats 4000000 in
theorem implRun_ok (S : Int) (g n le he m ns : Nat) (F T : Nat → Int) (P : Nat → Nat → Int) (ve : Value) (w : World) (hrow : Row w g 88 2 n (two F T)) (hev : SlF w 33 3 le he ve m (evs P)) (hl : lokZ S n F T = 0) (hS : (ns : Int) = S) (hm : m ≤ 2000) :
    Calls Try.prog 30 #[.agg #[.int .i64 S, .slice (some ⟨g, 0, none⟩) n n], ve] w fun e w' => ∃ u, e = .returned u ∧ DnF w' w.heap.size w'.heap.size u m ns n (runC S n F T P) (fun _ => true) (fun k => runX S n F T P (k + 1)) (fun k => runD S n F T P (k + 1)) ∧ Below w.heap.size w w' := by
  obtain ⟨r1, r2, r3⟩ := lok_range hl
  obtain ⟨f1, f2, f3⟩ := lok_wf hl
  have hp : 0 < ns := by omega
  have hm' : m ≤ 1048576 := by omega
  obtain ⟨ae, ce, rfl, he0⟩ := id hev
  obtain ⟨i0, hi, hz0, hz1, hz2⟩ := info_parts Try.infoDn
  obtain ⟨Cs, zs, mk0⟩ := made_dones m
  have mk := fun W => mk0 W hm
  have cb := fun W hr => bySide_any S g n F T W hr r3 f1 f2 f3
  have cg := fun W hr => implBegin_nice S g n ns F T W hr hl hS
  have kc := fun o => runOk_any S g n m ce ae F T _ hm' (hrow.alloc o)
  have e0 : (lokZ S n F T == 0 && decide (m ≤ 2000)) = true := by simp [hl, hm]
  rw [e0] at kc
  clear e0 f1 f2 f3 mk0
  obtain ⟨V, eV⟩ : ∃ V, w.alloc (.cells #[.int .i64 S, .slice (some ⟨g, 0, none⟩) n n] 31) = V := ⟨_, rfl⟩
  have sV : V.heap.size = w.heap.size + 1 := by rw [← eV]; simp
  have bV : Below w.heap.size w V := by rw [← eV]; exact (by repeat (first | exact Below.refl _ _ | assumption | refine below_alloc ?_ _ | refine Below.setCell ?_ (by first | omega | (simp; done) | (simp; omega)) _ | refine Below.alloc ?_ (by first | omega | (simp; done) | (simp; omega)) _ | refine Below.drew ?_))
  have bL : Blk V w.heap.size 31 2 (fun i => if i = 0 then .int .i64 S else .slice (some ⟨g, 0, none⟩) n n) := by
    rw [← eV]
    exact Blk.new w #[.int .i64 S, .slice (some ⟨g, 0, none⟩) n n] 31 _ (fun i hi => by simp at hi; match i, hi with | 0, _ => rfl | 1, _ => rfl)
  have P0 : ∀ W, Below V.heap.size V W → W.cell? ⟨w.heap.size, 0, none⟩ = some (.int .i64 S) ∧ W.cell? ⟨w.heap.size, 1, none⟩ = some (.slice (some ⟨g, 0, none⟩) n n) := fun W hb => ⟨(bL.on hb).cell (i := 0) (by omega), (bL.on hb).cell (i := 1) (by omega)⟩
  have kc' := kc (.cells #[.int .i64 S, .slice (some ⟨g, 0, none⟩) n n] 31)
  rw [eV] at kc'
  have EV : Hid _ := eV
  clear eV bL kc
  go_enter Try.func30, Try.ntmps30
  go_wp2_with fail
  rw [EV.out]
  refine kc'.mono ?_
  clear kc'
  rintro e w1 ⟨rfl, B1⟩
  have z1 : w.heap.size + 1 ≤ w1.heap.size := by have := B1.size; omega
  go_upto_region 4 with fail
  have O2 : (w1.alloc (.cells Cs 46)).ownsRow w.heap.size 46 4 (.slice (some ⟨w1.heap.size, 0, none⟩) 0 m) 0 [] := ⟨rfl, .inr ⟨w1.heap.size, m, Cs, rfl, by omega, hnewo w1 _, by omega, by unfold maxLen; omega, by rw [zs], by simp⟩⟩
  obtain ⟨w2, e2⟩ : ∃ w2, w1.alloc (.cells Cs 46) = w2 := ⟨_, rfl⟩
  have B2 : Below V.heap.size V w2 := by rw [← e2]; exact below_alloc B1 _
  have z2 : w1.heap.size < w2.heap.size := by rw [← e2]; simp
  rw [e2] at O2 ⊢
  clear e2 mk
  have R2 := hrow.on (below_on bV B2)
  go_cut [6] from 23 (fun q wc => ∃ bb B v1 v2 lo hi, q = .pointer (some ⟨bb, 0, none⟩) ∧ w2.heap.size ≤ bb ∧ Bd6 wc bb S g n B true v1 v2 ∧ Grp wc B (2 * n) (zsAt F T n) ∧ Lst wc lo hi v1 ns (fun _ => sec0) v2 n (fun _ => false) ∧ w2.heap.size ≤ lo ∧ lo ≤ hi ∧ hi ≤ wc.heap.size ∧ Below w2.heap.size w2 wc)
  case first =>
    have P1 : Hid (∀ W, Below w2.heap.size w2 W → _) := fun W hb => P0 W (below_on B2 hb)
    refine wp_region_any (by kernel_rfl) ?_
    refine InC.any (C := fun W => Below w2.heap.size w2 W) _ _ _ _ ?_
    have C0 : Below w2.heap.size w2 w2.drew := (Below.refl _ _).drew
    refine InC.take (i := 0) (v := .agg #[.int .i64 S, .slice (some ⟨g, 0, none⟩) n n]) rfl (by kernel_rfl) (by kernel_rfl) (by kernel_rfl) (fun _ _ _ h => h) C0 (Or.inl ⟨by rfl, ?_⟩) ?_
    · intro W hW
      obtain ⟨k0, k1⟩ := P1.out W hW
      go_simp
    refine InC.take (i := 1) (v := .agg #[.int .i64 S, .slice (some ⟨g, 0, none⟩) n n]) rfl (by kernel_rfl) (by kernel_rfl) (by kernel_rfl) (fun _ _ _ h => h) C0 (Or.inl ⟨by rfl, ?_⟩) ?_
    · intro W hW
      obtain ⟨k0, k1⟩ := P1.out W hW
      go_simp
    refine InC.take (i := 3) (v := .agg #[.int .i64 S, .slice (some ⟨g, 0, none⟩) n n]) rfl (by kernel_rfl) (by kernel_rfl) (by kernel_rfl) (fun _ _ _ h => h) C0 (Or.inl ⟨by rfl, ?_⟩) ?_
    · intro W hW
      obtain ⟨k0, k1⟩ := P1.out W hW
      go_simp
    refine InC.next2 (i := 2) (j := 6) (by kernel_rfl) (InC.one rfl fun K hK => ?_) (InC.one rfl fun K hK => ?_)
    · go_simp
      refine (cb _ R2.drew).mono ?_
      rintro e wB ⟨B, rfl, hB0, gB, hbB⟩
      have CB : Below w2.heap.size w2 wB := below_on C0 hbB
      refine hK _ _ CB ?_
      clear hK K
      refine InC.next2 (i := 4) (j := 6) (by kernel_rfl) (InC.one rfl fun K hK => ?_) (InC.one rfl fun K hK => ?_)
      · go_simp
        refine (cg _ (R2.on CB)).mono ?_
        rintro e wG ⟨a1, c1, a2, c2, rfl, LG, hbG⟩
        have CG := below_on CB hbG
        have zG := hbG.size
        have zB := CB.size
        refine hK _ _ CG ?_
        clear hK K
        refine InC.take (i := 5) (v := .agg #[.int .i64 S, .slice (some ⟨g, 0, none⟩) n n, .map (some B), .bool true, .slice a1 ns c1, .slice a2 n c2]) rfl (by kernel_rfl) (by kernel_rfl) (by kernel_rfl) (fun _ _ _ h => h) CG (Or.inl ⟨by rfl, ?_⟩) ?_
        · intro W hW
          go_simp
        refine InC.next1 (i := 6) (by kernel_rfl) (InC.one rfl fun K hK => ?_)
        go_simp
        refine hK _ _ (below_alloc CG _) ?_
        clear hK K
        refine InC.next1 (i := 7) (by kernel_rfl) (InC.one rfl fun K hK => ?_)
        go_simp
        refine hK _ _ (below_alloc CG _) ?_
        clear hK K
        refine InC.done (by kernel_rfl) ?_
        go_wp2_with fail
        go_meet
        case rel => exact ⟨wG.heap.size, B, _, _, wB.heap.size, wG.heap.size, rfl, by omega, Bd6.lay _ _ _ _ _ _ _ _, (gB.on hbG).alloc _, LG.on (below_alloc (Below.refl _ _) _), by omega, by omega, by simp, below_alloc CG _⟩
      · go_simp
        have CA := below_alloc CB (.cells #[.int .i64 0, .slice none 0 0, .map none, .bool false, .slice none 0 0, .slice none 0 0] 101)
        refine hK _ _ CA ?_
        clear hK K
        refine InC.next1 (i := 4) (by kernel_rfl) (InC.one rfl fun K hK => ?_)
        go_simp
        refine (cg _ (R2.on CA)).mono ?_
        rintro e wG ⟨a1, c1, a2, c2, rfl, LG, hbG⟩
        have CG := below_on CA hbG
        have zG := hbG.size
        have zB := CB.size
        rw [World.size_alloc] at zG
        have hZ := (bd_box wB).on hbG
        have y0 := hZ.cell (i := 0) (by omega)
        have y1 := hZ.cell (i := 1) (by omega)
        have y2 := hZ.cell (i := 2) (by omega)
        have y3 := hZ.cell (i := 3) (by omega)
        have y4 := hZ.cell (i := 4) (by omega)
        have y5 := hZ.cell (i := 5) (by omega)
        have x0 := hZ.frozen 0
        have x1 := hZ.frozen 1
        have x2 := hZ.frozen 2
        have x3 := hZ.frozen 3
        have x4 := hZ.frozen 4
        have x5 := hZ.frozen 5
        refine hK _ _ CG ?_
        clear hK K
        refine InC.next1 (i := 5) (by kernel_rfl) (InC.one rfl fun K hK => ?_)
        go_simp
        refine hK _ _ CG ?_
        clear hK K
        refine InC.next1 (i := 7) (by kernel_rfl) (InC.one rfl fun K hK => ?_)
        go_simp
        have E := bd_end (S := S) (g := g) hZ CG (by omega) ((gB.alloc _).on hbG) LG (by simp; omega) (by simpa using zG) (Nat.le_refl _) _ rfl
        refine hK _ _ (by obtain ⟨_, _, _, _, _, _, _, _, _, _, _, _, _, _, h⟩ := E; exact h) ?_
        clear hK K
        refine InC.done (by kernel_rfl) ?_
        go_wp2_with fail
        go_meet
        case rel => exact E
    · go_simp
      have CA : Below w2.heap.size w2 (w2.alloc (.cells #[.int .i64 0, .slice none 0 0, .map none, .bool false, .slice none 0 0, .slice none 0 0] 101)).drew := (below_alloc (Below.refl _ _) _).drew
      refine hK _ _ CA ?_
      clear hK K
      refine InC.next1 (i := 2) (by kernel_rfl) (InC.one rfl fun K hK => ?_)
      go_simp
      refine (cb _ (R2.on CA)).mono ?_
      rintro e wB ⟨B, rfl, hB0, gB, hbB⟩
      have CB : Below w2.heap.size w2 wB := below_on CA hbB
      have zB := hbB.size
      refine hK _ _ CB ?_
      clear hK K
      refine InC.next1 (i := 4) (by kernel_rfl) (InC.one rfl fun K hK => ?_)
      go_simp
      refine (cg _ (R2.on CB)).mono ?_
      rintro e wG ⟨a1, c1, a2, c2, rfl, LG, hbG⟩
      have CG := below_on CB hbG
      have zG := hbG.size
      have zC := CB.size
      have hZ := ((bd_box w2).drew.on hbB).on hbG
      have y0 := hZ.cell (i := 0) (by omega)
      have y1 := hZ.cell (i := 1) (by omega)
      have y2 := hZ.cell (i := 2) (by omega)
      have y3 := hZ.cell (i := 3) (by omega)
      have y4 := hZ.cell (i := 4) (by omega)
      have y5 := hZ.cell (i := 5) (by omega)
      have x0 := hZ.frozen 0
      have x1 := hZ.frozen 1
      have x2 := hZ.frozen 2
      have x3 := hZ.frozen 3
      have x4 := hZ.frozen 4
      have x5 := hZ.frozen 5
      refine hK _ _ CG ?_
      clear hK K
      refine InC.next1 (i := 5) (by kernel_rfl) (InC.one rfl fun K hK => ?_)
      go_simp
      refine hK _ _ CG ?_
      clear hK K
      refine InC.next1 (i := 7) (by kernel_rfl) (InC.one rfl fun K hK => ?_)
      go_simp
      have E := bd_end (S := S) (g := g) hZ CG (Nat.le_refl _) (gB.on hbG) LG zC zG (Nat.le_refl _) _ rfl
      refine hK _ _ (by obtain ⟨_, _, _, _, _, _, _, _, _, _, _, _, _, _, h⟩ := E; exact h) ?_
      clear hK K
      refine InC.done (by kernel_rfl) ?_
      go_wp2_with fail
      go_meet
      case rel => exact E
  case rest =>
    obtain ⟨bb, B, u1, u2, lo, hi', rfl, hbb, hbd, gB, LB, hlo, hlh, hhi, hbc⟩ := hcut
    have Bc := below_on bV (below_on B2 hbc)
    have zw : w.heap.size < w2.heap.size := by omega
    have I0 : RunI wc w.heap.size w2.heap.size (.slice (some ⟨w1.heap.size, 0, none⟩) 0 m) 0 ns n (runC S n F T P) (fun k => runX S n F T P (k + 1)) (fun k => runD S n F T P (k + 1)) := ⟨fun _ => .slice none 0 0, fun _ => .slice none 0 0, fun _ => w2.heap.size, own_on O2 hbc, Nat.le_of_lt zw, Nat.le_refl _, fun i hi => by omega⟩
    have zc : w2.heap.size ≤ wc.heap.size := hbc.size
    clear O2 B2 B1 R2 P0 cb cg hbc EV bV
    go_wp2
    go_loopw [5, 25] (fun q i wr => ∃ (k : Nat) (u1 u2 : Value) (lo hi top : Nat), k ≤ m ∧ i = .int .i64 k ∧ Bd6 wr bb S g n B true u1 u2 ∧ Grp wr B (2 * n) (zsAt F T n) ∧ Lst wr lo hi u1 ns (runX S n F T P k) u2 n (runD S n F T P k) ∧ RunI wr w.heap.size top q k ns n (runC S n F T P) (fun k => runX S n F T P (k + 1)) (fun k => runD S n F T P (k + 1)) ∧ top ≤ wr.heap.size ∧ Below w.heap.size w wr) (fun _ i _ => m - (intOf i).toNat)
    case atStart => exact ⟨0, u1, u2, lo, hi', w2.heap.size, Nat.zero_le _, rfl, hbd, gB, LB, I0, zc, Bc⟩
    case round =>
      clear hbd gB LB I0 Bc hlo hlh hhi
      obtain ⟨k, u1, u2, lo, hi', top, hk, rfl, hbd, gB, LB, hI, htop, Bw⟩ := hrel
      by_cases hlt : k < m
      · rcases he0 with he0 | ⟨ge, me, fe, rfl, _, _, h2, h3, h4⟩
        · omega
        obtain ⟨c0, c1, c2⟩ := three (h3.on Bw) h2 hlt h4
        have hst := run_ok (P := P) hl hS k
        have hc := fun j hj => secOk_count ((stOk_parts hst).2.2.2.2 j hj)
        obtain ⟨a1, d1, rfl, _⟩ := id LB.1
        obtain ⟨a2, d2, rfl, _⟩ := id LB.2
        obtain ⟨gs, rfl⟩ := LB.1.addr hp
        have eX : runX S n F T P (k + 1) = nxtX S n F T (runX S n F T P k) (runD S n F T P k) (P k 0) (P k 1) (P k 2) := rfl
        have eD : runD S n F T P (k + 1) = bhD S n (runD S n F T P k) (P k 0) (P k 1) (P k 2) := rfl
        have eC : runC S n F T P k = bhC S n F T (runX S n F T P k) (runD S n F T P k) (P k 0) (P k 1) (P k 2) := rfl
        obtain ⟨op, eop⟩ : ∃ op, P k 0 = op := ⟨_, rfl⟩
        obtain ⟨f, ef⟩ : ∃ f, P k 1 = f := ⟨_, rfl⟩
        obtain ⟨d, ed⟩ : ∃ d, P k 2 = d := ⟨_, rfl⟩
        rw [eop] at c0 eX eD eC
        rw [ef] at c1 eX eD eC
        rw [ed] at c2 eX eD eC
        have kb := behind_any S op f d g n B lo hi' F T true gs d1 ns a2 d2 _ _ (wr.alloc (.cells #[.int .i64 op, .int .i64 f, .int .i64 d] 33)) hl hS hc ((hrow.on Bw).alloc _) (gB.alloc _) (LB.on (below_alloc (Below.refl _ _) _))
        unfold brdV at kb
        rw [← eC, ← eX, ← eD] at kb
        obtain ⟨C, eC'⟩ : ∃ C, runC S n F T P k = C := ⟨_, rfl⟩
        rw [eC'] at kb
        have EC : Hid _ := eC'
        obtain ⟨A1, A2, L, q1, q2, q3, q4⟩ := hI
        obtain ⟨y0, y1, y2, y3, y4, y5⟩ := hbd.cells
        have hbb' := Blk.lt hbd
        have hi1 : (k : Int) < (m : Int) := by omega
        clear eX eD eC eC' eop ef ed h3 h4 hst hc
        go_wp2_with fail
        refine kb.mono ?_
        clear kb
        rintro e w3 ⟨g', k1, a', k2, rfl, L3, hb3⟩
        have zU : wr.heap.size + 1 ≤ w3.heap.size := by have := hb3.size; simpa using this
        have hbU : Below wr.heap.size wr w3 := below_on (below_alloc (Below.refl _ _) _) hb3
        have bx := (Box4.lay w3 C true (.slice (some ⟨g', 0, none⟩) ns k1) (.slice a' n k2)).alloc (.cells #[.int .i64 C, .bool true, .slice (some ⟨g', 0, none⟩) ns k1, .slice a' n k2] 46)
        have hnw := new_cells4 (w3.alloc (.cells #[.int .i64 C, .bool true, .slice (some ⟨g', 0, none⟩) ns k1, .slice a' n k2] 46)) (.int .i64 C) (.bool true) (.slice (some ⟨g', 0, none⟩) ns k1) (.slice a' n k2) 46
        rw [World.size_alloc] at hnw
        have h1c : ∀ u ∈ [Value.int .i64 C, .bool true, .slice (some ⟨g', 0, none⟩) ns k1, .slice a' n k2], u.oneCell' = true := fun u hu => by
          simp only [List.mem_cons, List.not_mem_nil, or_false] at hu
          rcases hu with rfl | rfl | rfl | rfl <;> rfl
        obtain ⟨U, eU⟩ : ∃ U, (w3.alloc (.cells #[.int .i64 C, .bool true, .slice (some ⟨g', 0, none⟩) ns k1, .slice a' n k2] 46)).alloc (.cells #[.int .i64 C, .bool true, .slice (some ⟨g', 0, none⟩) ns k1, .slice a' n k2] 46) = U := ⟨_, rfl⟩
        have hb3U : Below w3.heap.size w3 U := by rw [← eU]; exact (by repeat (first | exact Below.refl _ _ | assumption | refine below_alloc ?_ _ | refine Below.setCell ?_ (by first | omega | (simp; done) | (simp; omega)) _ | refine Below.alloc ?_ (by first | omega | (simp; done) | (simp; omega)) _ | refine Below.drew ?_))
        have szU : U.heap.size = w3.heap.size + 1 + 1 := by rw [← eU]; simp
        rw [eU] at bx hnw
        have hU := below_on hbU hb3U
        have own3 := own_on q1 hU
        have EU : Hid _ := eU
        have q4' : ∀ i, i < k → L i ≤ L (i + 1) ∧ SlF U 93 5 (L i) (L (i + 1)) (A1 i) ns (secs (runX S n F T P (i + 1))) ∧ SlF U 4 1 (L i) (L (i + 1)) (A2 i) n (bools (runD S n F T P (i + 1))) := fun i hi => ⟨(q4 i hi).1, (q4 i hi).2.1.on hU, (q4 i hi).2.2.on hU⟩
        have L3' := L3.on hb3U
        have bd3 := hbd.on hU
        have gB3 := gB.on hU
        have BU := below_on Bw hU
        have Q4 : Hid _ := q4'
        have post : ∀ w4, U.grownBy w4 (Value.ownBlock _) → Box4 w4 w3.heap.size C true (.slice (some ⟨g', 0, none⟩) ns k1) (.slice a' n k2) := fun w4 hg => Blk.grown bx hg (fun e => by have := (q1.lt _ e).2; omega)
        have HP : Hid _ := post
        clear q4 q4' eU L3 hbd gB LB bx post hU hb3U
        go_wp2_with (first
          | (at_builtin; rw [EU.out]; refine wpList_append_own _ rfl _ _ 59 rfl w.heap.size 46 i0 _ 4 64 Try.underlying59 hi hz0 hz1 hz2 rfl (by decide) _ _ _ rfl own3 ⟨w3.heap.size + 1, 0, none⟩ 1 1 [.int .i64 C, .bool true, .slice (some ⟨g', 0, none⟩) ns k1, .slice a' n k2] rfl rfl hnw h1c (by unfold maxLen; omega) (by omega) (by have := BU.size; omega) ?_; intro v' w4 hown' hgrow hnil; obtain ⟨g5, cap5, rfl⟩ := own_some hown' (by omega); have b4 := HP.out w4 hgrow; obtain ⟨t0, t1, t2, t3⟩ := b4.cells; have tg := own_grown own3 hgrow; have bd4 := bd3.turned tg (by decide); obtain ⟨s0, s1, s2, s3, s4, s5⟩ := bd4.cells; have x3 := Blk.frozen bd4 3; have x4 := Blk.frozen bd4 4; have x5 := Blk.frozen bd4 5))
        obtain ⟨n1, n2⟩ := bd6_state (ok' := true) (v1' := .slice (some ⟨g', 0, none⟩) ns k1) (v2' := .slice a' n k2) bd4
        have I5 := RunI.step (X := fun k => runX S n F T P (k + 1)) (D := fun k => runD S n F T P (k + 1)) own3 q2 q3 Q4.out EC.out.symm L3' (by simp; omega) (by simpa using zU) hown' hgrow
        have B5 : Below w.heap.size w _ := (BU.trans (tg.below (Nat.le_refl _) BU.size)).trans (n2.below (B := w.heap.size) (by omega) (by have := BU.size; have := tg.size; omega))
        have z5 : w3.heap.size ≤ (((w4.setCell ⟨bb, 3, none⟩ (.bool true)).setCell ⟨bb, 4, none⟩ (.slice (some ⟨g', 0, none⟩) ns k1)).setCell ⟨bb, 5, none⟩ (.slice a' n k2)).heap.size := by have h1 := n2.size; have h2 := tg.size; omega
        go_roundw
        case rel => exact ⟨k + 1, _, _, _, _, _, by omega, by go_num, n1, (gB3.turned tg (by decide)).turned n2 (by decide), ⟨(L3'.1.turned tg (.inl (by decide))).turned n2 (.inl (by decide)), (L3'.2.turned tg (.inl (by decide))).turned n2 (.inl (by decide))⟩, I5.turned n2 (by decide) (by decide) (by decide), z5, B5⟩
        case measure => simp [intOf]; omega
      · have hkm : k = m := by omega
        subst hkm
        go_wp2
        go_ret
        exact ⟨_, rfl, hI.dones htop, Bw⟩

end Go.Proofs.Ytlpopfhaephfaab
