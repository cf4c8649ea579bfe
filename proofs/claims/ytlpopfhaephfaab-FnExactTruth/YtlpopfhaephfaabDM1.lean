import Derived.Test.YtlpopfhaephfaabSO3
import Derived.Test.YtlpopfhaephfaabIM3
namespace Go.Proofs.Ytlpopfhaephfaab
open Go.RowKit Go.Maps

/-- one counted into a section (way 1) or out of it (way -1) -/
def cntC (c way : Int) : Int := if inB (c + way) (-1000000) 1000000 then c + way else c
def cnt (x : Sec) (way : Int) : Sec := ⟨x.told, cntC x.count way, x.lost || decide (cntC x.count way < 0), x.sweep && !(decide (cntC x.count way = 0) && decide (way = -1)), way⟩
def cntAt (X : Nat → Sec) (k : Nat) (way : Int) : Nat → Sec := fun i => if i = k then cnt (X k) way else X i

section
variable {w : World} {e sz lo hi n g cap : Nat} {G : Nat → Nat → Value}

theorem SlF.set (h : SlF w e sz lo hi (.slice (some ⟨g, 0, none⟩) n cap) n G) {k j : Nat} (hk : k < n) (hj : j < sz) (u : Value) : SlF (w.setCell ⟨g, k * sz + j, none⟩ u) e sz lo hi (.slice (some ⟨g, 0, none⟩) n cap) n (fun i' j' => if i' = k ∧ j' = j then u else G i' j') := by
  obtain ⟨ao, cp, he, h0 | ⟨g', m, f, rfl, h1, h1', h2, h3, h4⟩⟩ := h
  · omega
  · simp only [Value.slice.injEq, Option.some.injEq, Addr.mk.injEq, and_true] at he
    obtain ⟨rfl, _, rfl⟩ := he
    refine ⟨_, _, rfl, .inr ⟨g, m, _, rfl, h1, h1', h2, h3.set (k * sz + j) u, fun i hi jj hjj => ?_⟩⟩
    by_cases e1 : i = k ∧ jj = j
    · obtain ⟨rfl, rfl⟩ := e1; simp
    · have : ¬ (i * sz + jj = k * sz + j) := fun e2 => e1 ⟨by have a := idx_div (i := i) hjj; rw [e2, idx_div hj] at a; exact a.symm, by have a := idx_mod (i := i) hjj; rw [e2, idx_mod hj] at a; exact a.symm⟩
      simp only [if_neg this, if_neg e1]; exact h4 i hi jj hjj
theorem SlF.blk (h : SlF w e sz lo hi (.slice (some ⟨g, 0, none⟩) n cap) n G) (hn : 0 < n) : lo ≤ g ∧ g < hi ∧ ∃ m f, n * sz ≤ m ∧ Blk w g e m f ∧ ∀ i, i < n → ∀ j, j < sz → f (i * sz + j) = G i j := by
  obtain ⟨ao, cp, he, h0 | ⟨g', m, f, rfl, h1, h1', h2, h3, h4⟩⟩ := h
  · omega
  · simp only [Value.slice.injEq, Option.some.injEq, Addr.mk.injEq, and_true] at he
    obtain ⟨rfl, _, rfl⟩ := he
    exact ⟨h1, h1', m, f, h2, h3, h4⟩
theorem SlF.addr {ao : Option Addr} (h : SlF w e sz lo hi (.slice ao n cap) n G) (hn : 0 < n) : ∃ g, ao = some ⟨g, 0, none⟩ := by
  obtain ⟨a', cp, he, h0 | ⟨g', m, f, rfl, _⟩⟩ := h
  · omega
  · simp only [Value.slice.injEq] at he
    exact ⟨g', he.1⟩
end

theorem cnt_cases (count way : Int) (h0 : -1000000 ≤ count) (h1 : count ≤ 1000000) (hw : way = 1 ∨ way = -1) :
    (inB (count + way) (-1000000) 1000000 = true ∧ cntC count way = count + way) ∨ (inB (count + way) (-1000000) 1000000 = false ∧ cntC count way = count ∧ ((way = 1 ∧ count = 1000000) ∨ (way = -1 ∧ count = -1000000))) := by
  unfold cntC
  cases h : inB (count + way) (-1000000) 1000000
  · right
    refine ⟨rfl, by simp, ?_⟩
    unfold inB at h
    simp at h
    omega
  · left; exact ⟨rfl, by simp⟩

/-- behind the stores of counting -/
theorem cnt_congr {G : Nat → Nat → Value} {X : Nat → Sec} {k n : Nat} {way : Int} (hother : ∀ i, i < n → i ≠ k → ∀ j, j < 5 → G i j = secs X i j) (h : ∀ j, j < 5 → G k j = scell (cnt (X k) way) j) : ∀ i, i < n → ∀ j, j < 5 → G i j = secs (cntAt X k way) i j := by
  intro i hi j hj
  by_cases e : i = k
  · subst e; simp only [secs, cntAt, if_true]; exact h j hj
  · simp only [secs, cntAt, if_neg e]; exact hother i hi e j hj

theorem cntV1 {w : World} {lo hi gs c1 ns k : Nat} {X : Nat → Sec} {way : Int} (hS : SlF w 93 5 lo hi (.slice (some ⟨gs, 0, none⟩) ns c1) ns (secs X)) (hk : k < ns) {c' : Int} (hc : cntC (X k).count way = c') (hn : c' < 0) (hz : ¬ c' = 0) :
    SlF (((w.setCell ⟨gs, k * 5 + 1, none⟩ (.int .i64 c')).setCell ⟨gs, k * 5 + 4, none⟩ (.int .i64 way)).setCell ⟨gs, k * 5 + 2, none⟩ (.bool true)) 93 5 lo hi (.slice (some ⟨gs, 0, none⟩) ns c1) ns (secs (cntAt X k way)) ∧ Turned w (((w.setCell ⟨gs, k * 5 + 1, none⟩ (.int .i64 c')).setCell ⟨gs, k * 5 + 4, none⟩ (.int .i64 way)).setCell ⟨gs, k * 5 + 2, none⟩ (.bool true)) (· = 93) lo hi := by
  obtain ⟨l1, l2, m, f, b1, b2, b3⟩ := hS.blk (by omega)
  refine ⟨(((hS.set hk (j := 1) (by omega) _).set hk (j := 4) (by omega) _).set hk (j := 2) (by omega) _).congr (cnt_congr (fun i hi hne j hj => by simp [hne]) (fun j hj => ?_)), Turned.of_grown (grown_set (grown_set (grown_set (World.grownBy.refl _ _) _) _) _) l1 l2 rfl b2⟩
  match j, hj with
  | 0, _ => simp [secs, scell, cnt]
  | 1, _ => simp [scell, cnt, hc, hn, hz]
  | 2, _ => simp [scell, cnt, hc, hn, hz]
  | 3, _ => simp [secs, scell, cnt, hc, hn, hz]
  | 4, _ => simp [scell, cnt]

theorem cntV2 {w : World} {lo hi gs c1 ns k : Nat} {X : Nat → Sec} {way : Int} (hS : SlF w 93 5 lo hi (.slice (some ⟨gs, 0, none⟩) ns c1) ns (secs X)) (hk : k < ns) {c' : Int} (hc : cntC (X k).count way = c') (hz : c' = 0) (hw : way = -1) :
    SlF (((w.setCell ⟨gs, k * 5 + 1, none⟩ (.int .i64 c')).setCell ⟨gs, k * 5 + 4, none⟩ (.int .i64 way)).setCell ⟨gs, k * 5 + 3, none⟩ (.bool false)) 93 5 lo hi (.slice (some ⟨gs, 0, none⟩) ns c1) ns (secs (cntAt X k way)) ∧ Turned w (((w.setCell ⟨gs, k * 5 + 1, none⟩ (.int .i64 c')).setCell ⟨gs, k * 5 + 4, none⟩ (.int .i64 way)).setCell ⟨gs, k * 5 + 3, none⟩ (.bool false)) (· = 93) lo hi := by
  subst hz
  subst hw
  obtain ⟨l1, l2, m, f, b1, b2, b3⟩ := hS.blk (by omega)
  refine ⟨(((hS.set hk (j := 1) (by omega) _).set hk (j := 4) (by omega) _).set hk (j := 3) (by omega) _).congr (cnt_congr (fun i hi hne j hj => by simp [hne]) (fun j hj => ?_)), Turned.of_grown (grown_set (grown_set (grown_set (World.grownBy.refl _ _) _) _) _) l1 l2 rfl b2⟩
  match j, hj with
  | 0, _ => simp [secs, scell, cnt]
  | 1, _ => simp [scell, cnt, hc]
  | 2, _ => simp [secs, scell, cnt, hc]
  | 3, _ => simp [scell, cnt, hc]
  | 4, _ => simp [scell, cnt]

theorem cntV3 {w : World} {lo hi gs c1 ns k : Nat} {X : Nat → Sec} {way : Int} (hS : SlF w 93 5 lo hi (.slice (some ⟨gs, 0, none⟩) ns c1) ns (secs X)) (hk : k < ns) {c' : Int} (hc : cntC (X k).count way = c') (hn : ¬ c' < 0) (hz : ¬ (c' = 0 ∧ way = -1 ∧ (X k).sweep = true)) :
    SlF ((w.setCell ⟨gs, k * 5 + 1, none⟩ (.int .i64 c')).setCell ⟨gs, k * 5 + 4, none⟩ (.int .i64 way)) 93 5 lo hi (.slice (some ⟨gs, 0, none⟩) ns c1) ns (secs (cntAt X k way)) ∧ Turned w ((w.setCell ⟨gs, k * 5 + 1, none⟩ (.int .i64 c')).setCell ⟨gs, k * 5 + 4, none⟩ (.int .i64 way)) (· = 93) lo hi := by
  obtain ⟨l1, l2, m, f, b1, b2, b3⟩ := hS.blk (by omega)
  refine ⟨((hS.set hk (j := 1) (by omega) _).set hk (j := 4) (by omega) _).congr (cnt_congr (fun i hi hne j hj => by simp [hne]) (fun j hj => ?_)), Turned.of_grown (grown_set (grown_set (World.grownBy.refl _ _) _) _) l1 l2 rfl b2⟩
  match j, hj with
  | 0, _ => simp [secs, scell, cnt]
  | 1, _ => simp [scell, cnt, hc, hn]
  | 2, _ => simp [secs, scell, cnt, hc, hn]
  | 3, _ =>
    cases hs : (X k).sweep
    · simp [secs, scell, cnt, hs]
    · rw [hs] at hz
      have hz' : ¬ (c' = 0 ∧ way = -1) := fun h => hz ⟨h.1, h.2, rfl⟩
      simp [secs, scell, cnt, hc, hs]
      exact Classical.not_and_iff_not_or_not.1 hz'
  | 4, _ => simp [scell, cnt]

theorem cntO1 {w : World} {lo hi gs c1 ns k : Nat} {X : Nat → Sec} {way : Int} (hS : SlF w 93 5 lo hi (.slice (some ⟨gs, 0, none⟩) ns c1) ns (secs X)) (hk : k < ns) (hc : cntC (X k).count way = (X k).count) (hn : ¬ (X k).count < 0) (hz : ¬ (X k).count = 0) :
    SlF (w.setCell ⟨gs, k * 5 + 4, none⟩ (.int .i64 way)) 93 5 lo hi (.slice (some ⟨gs, 0, none⟩) ns c1) ns (secs (cntAt X k way)) ∧ Turned w (w.setCell ⟨gs, k * 5 + 4, none⟩ (.int .i64 way)) (· = 93) lo hi := by
  obtain ⟨l1, l2, m, f, b1, b2, b3⟩ := hS.blk (by omega)
  refine ⟨(hS.set hk (j := 4) (by omega) _).congr (cnt_congr (fun i hi hne j hj => by simp [hne]) (fun j hj => ?_)), Turned.of_grown (grown_set (World.grownBy.refl _ _) _) l1 l2 rfl b2⟩
  match j, hj with
  | 0, _ => simp [secs, scell, cnt]
  | 1, _ => simp [secs, scell, cnt, hc, hn, hz]
  | 2, _ => simp [secs, scell, cnt, hc, hn, hz]
  | 3, _ => simp [secs, scell, cnt, hc, hn, hz]
  | 4, _ => simp [scell, cnt]

theorem cntO2 {w : World} {lo hi gs c1 ns k : Nat} {X : Nat → Sec} {way : Int} (hS : SlF w 93 5 lo hi (.slice (some ⟨gs, 0, none⟩) ns c1) ns (secs X)) (hk : k < ns) (hc : cntC (X k).count way = (X k).count) (hn : (X k).count < 0) (hz : ¬ (X k).count = 0) :
    SlF ((w.setCell ⟨gs, k * 5 + 4, none⟩ (.int .i64 way)).setCell ⟨gs, k * 5 + 2, none⟩ (.bool true)) 93 5 lo hi (.slice (some ⟨gs, 0, none⟩) ns c1) ns (secs (cntAt X k way)) ∧ Turned w ((w.setCell ⟨gs, k * 5 + 4, none⟩ (.int .i64 way)).setCell ⟨gs, k * 5 + 2, none⟩ (.bool true)) (· = 93) lo hi := by
  obtain ⟨l1, l2, m, f, b1, b2, b3⟩ := hS.blk (by omega)
  refine ⟨((hS.set hk (j := 4) (by omega) _).set hk (j := 2) (by omega) _).congr (cnt_congr (fun i hi hne j hj => by simp [hne]) (fun j hj => ?_)), Turned.of_grown (grown_set (grown_set (World.grownBy.refl _ _) _) _) l1 l2 rfl b2⟩
  match j, hj with
  | 0, _ => simp [secs, scell, cnt]
  | 1, _ => simp [secs, scell, cnt, hc, hn, hz]
  | 2, _ => simp [scell, cnt, hc, hn, hz]
  | 3, _ => simp [secs, scell, cnt, hc, hn, hz]
  | 4, _ => simp [scell, cnt]

set_option maxHeartbeats 1000000 in
theorem count_in (S : Int) (g n B lo hi : Nat) (ok : Bool) (gs c1 ns k : Nat) (v2 : Option Addr) (c2 : Nat) (way : Int) (X : Nat → Sec) (w : World) (hw : way = 1 ∨ way = -1) (hk : k < ns) (hx : SlF w 93 5 lo hi (.slice (some ⟨gs, 0, none⟩) ns c1) ns (secs X)) (h0 : -1000000 ≤ (X k).count) (h1 : (X k).count ≤ 1000000) :
    Calls Try.prog 110 #[.agg #[.int .i64 S, .slice (some ⟨g, 0, none⟩) n n, .map (some B), .bool ok, .slice (some ⟨gs, 0, none⟩) ns c1, .slice v2 n c2], .int .i64 k, .int .i64 way] w fun e w' => e = .returned (.tuple #[]) ∧ SlF w' 93 5 lo hi (.slice (some ⟨gs, 0, none⟩) ns c1) ns (secs (cntAt X k way)) ∧ Turned w w' (· = 93) lo hi := by
  obtain ⟨l1, l2, m, f, b1, b2, b3⟩ := hx.blk (by omega)
  obtain ⟨e0, e1, e2, e3, e4⟩ := five b2 b1 hk b3
  have hk' : (k : Int) < (ns : Int) := by omega
  have hkm : ¬ ((k : Int) = -1) := by omega
  have lg := b2.lt
  have z0 := b2.frozen (k * 5)
  have z1 := b2.frozen (k * 5 + 1)
  have z2 := b2.frozen (k * 5 + 2)
  have z3 := b2.frozen (k * 5 + 3)
  have z4 := b2.frozen (k * 5 + 4)
  obtain ⟨x, ex⟩ : ∃ x, X k = x := ⟨_, rfl⟩
  rw [ex] at e0 e1 e2 e3 e4 h0 h1
  obtain ⟨told, count, lost, sweep, last⟩ := x
  simp only at e0 e1 e2 e3 e4 h0 h1
  have HX : Hid (X k = ⟨told, count, lost, sweep, last⟩) := ex
  have HS : Hid _ := hx
  have HB : Hid _ := b2
  clear ex hx b2 b3
  rcases cnt_cases count way h0 h1 hw with ⟨hi1, hc⟩ | ⟨hi1, hc, hcc⟩
  · have HC : Hid (cntC count way = count + way) := hc
    have i1 : -1000000 ≤ count + way := by unfold inB at hi1; simp at hi1; omega
    have i2 : count + way ≤ 1000000 := by unfold inB at hi1; simp at hi1; omega
    clear hc hi1
    have hcX : cntC (X k).count way = count + way := by rw [HX.out]; exact HC.out
    have HCX : Hid (cntC (X k).count way = count + way) := hcX
    clear hcX
    rcases (show count + way < 0 ∨ (count + way = 0 ∧ way = -1) ∨ (count + way = 0 ∧ way = 1) ∨ 0 < count + way by omega) with hc | ⟨hc, rfl⟩ | ⟨hc, rfl⟩ | hc
    · have g2 : (count + way == 0) = false := by simp; omega
      have E := cntV1 HS.out hk HCX.out hc (by omega)
      rcases hw with rfl | rfl
      all_goals
        go_enter Try.func110, Try.ntmps110
        go_wp2
        go_end0
        exact ⟨rfl, E.1.alloc _, E.2.trans (Turned.of_below (below_alloc (Below.refl _ _) _))⟩
    · have E := cntV2 HS.out hk HCX.out hc rfl
      have g0 : count = 1 := by omega
      subst g0
      go_enter Try.func110, Try.ntmps110
      go_wp2
      go_end0
      exact ⟨rfl, E.1.alloc _, E.2.trans (Turned.of_below (below_alloc (Below.refl _ _) _))⟩
    · have E := cntV3 HS.out hk HCX.out (by omega) (by omega)
      have g0 : count = -1 := by omega
      subst g0
      go_enter Try.func110, Try.ntmps110
      go_wp2
      go_end0
      exact ⟨rfl, E.1.alloc _, E.2.trans (Turned.of_below (below_alloc (Below.refl _ _) _))⟩
    · have g2 : (count + way == 0) = false := by simp; omega
      have g3 : decide (count + way < 0) = false := by simp; omega
      have E := cntV3 HS.out hk HCX.out (by omega) (by omega)
      rcases hw with rfl | rfl
      all_goals
        go_enter Try.func110, Try.ntmps110
        go_wp2
        go_end0
        exact ⟨rfl, E.1.alloc _, E.2.trans (Turned.of_below (below_alloc (Below.refl _ _) _))⟩
  · have hcX : cntC (X k).count way = (X k).count := by rw [HX.out]; exact hc
    rcases hcc with ⟨rfl, rfl⟩ | ⟨rfl, rfl⟩
    · have E := cntO1 HS.out hk hcX (by rw [HX.out]; simp) (by rw [HX.out]; simp)
      clear hc hcX hi1
      go_enter Try.func110, Try.ntmps110
      go_wp2
      go_end0
      exact ⟨rfl, E.1.alloc _, E.2.trans (Turned.of_below (below_alloc (Below.refl _ _) _))⟩
    · have E := cntO2 HS.out hk hcX (by rw [HX.out]; simp) (by rw [HX.out]; simp)
      clear hc hcX hi1
      go_enter Try.func110, Try.ntmps110
      go_wp2
      go_end0
      exact ⟨rfl, E.1.alloc _, E.2.trans (Turned.of_below (below_alloc (Below.refl _ _) _))⟩

end Go.Proofs.Ytlpopfhaephfaab
