import Derived.Test.YtlpopfhaephfaaaRN2
import Derived.Test.YtlpopfhaephfaaaOW
import Derived.Test.YtlpopfhaephfaaaCU2
import Derived.BigQuiet
import Derived.Lib.QuietBelow
import Derived.Deep.RegionWith
import Derived.Deep.QuietTactic
import Derived.Test.YtlpopfhaephfaaaQR
import Derived.Test.YtlpopfhaephfaaaRC
import Derived.Test.YtlpopfhaephfaaaGrp
import Derived.Deep.RegionLaw
import Derived.Test.YtlpopfhaephfaaaRN5
import Derived.Test.YtlpopfhaephfaaaQT
import Derived.Test.YtlpopfhaephfaaaCU3f
import Derived.Test.YtlpopfhaephfaaaCU1
import Derived.Test.YtlpopfhaephfaaaRows
import Derived.ChangeSlices
import Derived.ProofKit
import Derived.Lib.SmallJoins
import Derived.Deep.SlicePairs
namespace Go.Proofs.Ytlpopfhaephfaaa
open Go.RowKit

theorem runS_congr (S : Int) (n : Nat) (F T : Nat → Int) (P P' : Nat → Nat → Int) (k : Nat) (h : ∀ j, j < k → ∀ i, i < 3 → P j i = P' j i) : runS S n F T P k = runS S n F T P' k := by
  induction k with
  | zero => rfl
  | succ k ih =>
    have := ih (fun j hj i hi => h j (by omega) i hi)
    simp only [runS]
    rw [this, h k (by omega) 0 (by omega), h k (by omega) 1 (by omega), h k (by omega) 2 (by omega)]

theorem cntSide_at (X : Nat → Sec) (s way : Int) (i : Nat) : cntSide X s way i = if s = (i : Int) then cnt (X i) way else X i := by
  unfold cntSide
  split
  · rw [if_neg (by omega)]
  · unfold cntAt
    by_cases h : s = (i : Int)
    · subst h; simp
    · rw [if_neg (by omega), if_neg h]

/-- what a pass does to one section -/
def pwS (fr tt : Int) (i : Nat) (x : Sec) : Sec := if tt = (i : Int) then cnt (if fr = (i : Int) then cnt x (-1) else x) 1 else if fr = (i : Int) then cnt x (-1) else x
def tlS (b : Bool) (x : Sec) : Sec := ⟨toldZ b x, x.count, x.lost, x.sweep, x.last⟩
theorem tlS_cnt (b : Bool) (x : Sec) (way : Int) : tlS b (cnt (tlS b x) way) = tlS b (cnt x way) := rfl
theorem tlS_tlS (b : Bool) (x : Sec) : tlS b (tlS b x) = tlS b x := rfl
theorem tlS_pw (b : Bool) (fr tt : Int) (i : Nat) (x : Sec) : tlS b (pwS fr tt i (tlS b x)) = tlS b (pwS fr tt i x) := by
  unfold pwS
  split <;> split <;> rfl
def pwD (F T : Nat → Int) (D : Nat → Bool) (f : Nat) (d : Int) (i : Nat) (x : Sec) : Sec := if D f then x else pwS (fromZ F T f d) (toZ F T f d) i x
theorem tlS_pwD (b : Bool) (F T : Nat → Int) (D : Nat → Bool) (f : Nat) (d : Int) (i : Nat) (x : Sec) : tlS b (pwD F T D f d i (tlS b x)) = tlS b (pwD F T D f d i x) := by
  unfold pwD
  split
  · rfl
  · exact tlS_pw _ _ _ _ _

theorem nxt_pass (S : Int) (n : Nat) (F T : Nat → Int) (X : Nat → Sec) (D : Nat → Bool) (f : Nat) (d : Int) (he : evB S n 1 f d = true) (i : Nat) :
    nxtX S n F T X D 1 f d i = tlS (deadB n F T D (i : Int)) (pwD F T D f d i (X i)) ∧ bhD S n D 1 f d = D := by
  have e1 : bhD S n D 1 f d = D := by unfold bhD effD; rw [he]; rfl
  refine ⟨?_, e1⟩
  unfold nxtX told1
  rw [e1]
  have e2 : bhX S n F T X D 1 f d i = pwD F T D f d i (X i) := by
    unfold bhX effX
    rw [he]
    simp only [if_true, Int.toNat_natCast]
    unfold passY pwD
    split
    · rfl
    · unfold passX pwS
      rw [cntSide_at]
      simp only [if_true]
      rw [cntSide_at]
  rw [e2]
  rfl

theorem pw_off {fr tt : Int} {i : Nat} (x : Sec) (h1 : ¬ fr = (i : Int)) (h2 : ¬ tt = (i : Int)) : pwS fr tt i x = x := by
  unfold pwS
  rw [if_neg h2, if_neg h1]
theorem ft_mem (F T : Nat → Int) (f : Nat) (d : Int) (i : Nat) (h1 : ¬ F f = (i : Int)) (h2 : ¬ T f = (i : Int)) : ¬ fromZ F T f d = (i : Int) ∧ ¬ toZ F T f d = (i : Int) := by
  unfold fromZ toZ
  split <;> exact ⟨by assumption, by assumption⟩

/-- whether two counters have no section in common -/
def apartB (F T : Nat → Int) (f h : Nat) : Prop := ∀ i : Nat, (F f = (i : Int) ∨ T f = (i : Int)) → ¬ (F h = (i : Int) ∨ T h = (i : Int))

theorem pw_swap (F T : Nat → Int) (D : Nat → Bool) (f h : Nat) (d e : Int) (i : Nat) (x : Sec) (ha : apartB F T f h) : pwD F T D h e i (pwD F T D f d i x) = pwD F T D f d i (pwD F T D h e i x) := by
  unfold pwD
  split
  · rfl
  · split
    · rfl
    · by_cases h1 : F f = (i : Int) ∨ T f = (i : Int)
      · have h2 := ha i h1
        obtain ⟨a, b⟩ := ft_mem F T h e i (fun x => h2 (.inl x)) (fun x => h2 (.inr x))
        rw [pw_off _ a b, pw_off _ a b]
      · obtain ⟨a, b⟩ := ft_mem F T f d i (fun x => h1 (.inl x)) (fun x => h1 (.inr x))
        rw [pw_off _ a b, pw_off _ a b]

theorem swap_two (S : Int) (n : Nat) (F T : Nat → Int) (X : Nat → Sec) (D : Nat → Bool) (f h : Nat) (d e : Int) (hf : evB S n 1 f d = true) (hh : evB S n 1 h e = true) (ha : apartB F T f h) (i : Nat) :
    nxtX S n F T (nxtX S n F T X D 1 f d) D 1 h e i = nxtX S n F T (nxtX S n F T X D 1 h e) D 1 f d i := by
  rw [(nxt_pass S n F T _ D h e hh i).1, (nxt_pass S n F T _ D f d hf i).1, (nxt_pass S n F T _ D f d hf i).1, (nxt_pass S n F T _ D h e hh i).1, tlS_pwD, tlS_pwD, pw_swap F T D f h d e i _ ha]

theorem trP_left (l m : List (Int × Int × Int)) (k : Nat) (h : k < l.length) (j : Nat) : trP (l ++ m) k j = trP l k j := by
  have e : (l ++ m).getD k (0, 0, 0) = l.getD k (0, 0, 0) := by simp [List.getD, List.getElem?_append_left h]
  unfold trP
  rw [e]
theorem trP_at (l : List (Int × Int × Int)) (a b : Int × Int × Int) (j : Nat) : trP (l ++ [a, b]) l.length j = (if j = 0 then a.1 else if j = 1 then a.2.1 else a.2.2) ∧ trP (l ++ [a, b]) (l.length + 1) j = (if j = 0 then b.1 else if j = 1 then b.2.1 else b.2.2) := by
  unfold trP
  constructor <;> simp [List.getD]

theorem swap_run (S : Int) (n : Nat) (F T : Nat → Int) (l : List (Int × Int × Int)) (f h : Nat) (d e : Int) (hf : evB S n 1 f d = true) (hh : evB S n 1 h e = true) (ha : apartB F T f h) :
    (∀ i, runX S n F T (trP (l ++ [(1, (f : Int), d), (1, (h : Int), e)])) (l.length + 2) i = runX S n F T (trP (l ++ [(1, (h : Int), e), (1, (f : Int), d)])) (l.length + 2) i) ∧ runD S n F T (trP (l ++ [(1, (f : Int), d), (1, (h : Int), e)])) (l.length + 2) = runD S n F T (trP (l ++ [(1, (h : Int), e), (1, (f : Int), d)])) (l.length + 2) := by
  have e0 : ∀ m, runS S n F T (trP (l ++ m)) l.length = runS S n F T (trP l) l.length := fun m => runS_congr _ _ _ _ _ _ _ (fun j hj i _ => trP_left l m j hj i)
  obtain ⟨X, D, e1⟩ : ∃ X D, runS S n F T (trP l) l.length = (X, D) := ⟨_, _, rfl⟩
  have eX : ∀ m, runX S n F T (trP (l ++ m)) l.length = X := fun m => by unfold runX; rw [e0 m, e1]
  have eD : ∀ m, runD S n F T (trP (l ++ m)) l.length = D := fun m => by unfold runD; rw [e0 m, e1]
  have go : ∀ (f h : Nat) (d e : Int), evB S n 1 f d = true → evB S n 1 h e = true → runX S n F T (trP (l ++ [(1, (f : Int), d), (1, (h : Int), e)])) (l.length + 2) = nxtX S n F T (nxtX S n F T X D 1 f d) D 1 h e ∧ runD S n F T (trP (l ++ [(1, (f : Int), d), (1, (h : Int), e)])) (l.length + 2) = D := by
    intro f h d e hf hh
    have p := trP_at l (1, (f : Int), d) (1, (h : Int), e)
    have q1 : runD S n F T (trP (l ++ [(1, (f : Int), d), (1, (h : Int), e)])) (l.length + 1) = D := by
      rw [runD_succ, (p 0).1, (p 1).1, (p 2).1, eD]
      exact (nxt_pass S n F T X D f d hf 0).2
    constructor
    · rw [runX_succ, q1, runX_succ, (p 0).1, (p 1).1, (p 2).1, (p 0).2, (p 1).2, (p 2).2, eX, eD]
      rfl
    · rw [runD_succ, q1, (p 0).2, (p 1).2, (p 2).2]
      exact (nxt_pass S n F T X D h e hh 0).2
  refine ⟨fun i => ?_, ?_⟩
  · rw [(go f h d e hf hh).1, (go h f e d hh hf).1]
    exact swap_two S n F T X D f h d e hf hh ha i
  · rw [(go f h d e hf hh).2, (go h f e d hh hf).2]

end Go.Proofs.Ytlpopfhaephfaaa

namespace Go.Proofs.Ytlpopfhaephfaaa
open Go.RowKit Go.Sort

set_option maxRecDepth 100000 in
set_option maxHeartbeats 4000000 in
theorem wState_same (lo hi lo' hi' ns nd : Nat) (v v' : Value) (ok : Bool) (X X' : Nat → Sec) (D D' : Nat → Bool) (w : World) (hs : ns ≤ 1048576) (hd : nd ≤ 1048576) (h : StF w lo hi v ok ns nd X D) (h' : StF w lo' hi' v' ok ns nd X' D') (hx : ∀ i, i < ns → X' i = X i) (he : ∀ i, i < nd → D' i = D i) :
    Calls Try.prog 17 #[v, v'] w fun e w' => e = .returned (.bool true) ∧ Below w.heap.size w w' := by
  obtain ⟨v1, v2, rfl, ⟨a1, c1, rfl, s1⟩, ⟨a2, c2, rfl, s2⟩⟩ := h
  obtain ⟨v3, v4, rfl, ⟨a3, c3, rfl, s3⟩, ⟨a4, c4, rfl, s4⟩⟩ := h'
  obtain ⟨W, eW⟩ : ∃ W, (w.alloc (.cells #[.bool ok, .slice a1 ns c1, .slice a2 nd c2] 37)).alloc (.cells #[.bool ok, .slice a3 ns c3, .slice a4 nd c4] 37) = W := ⟨_, rfl⟩
  have hB : Below w.heap.size w W := by rw [← eW]; exact (by repeat (first | exact Below.refl _ _ | assumption | refine below_alloc ?_ _ | refine Below.setCell ?_ (by first | omega | (simp; done) | (simp; omega)) _ | refine Below.alloc ?_ (by first | omega | (simp; done) | (simp; omega)) _ | refine Below.drew ?_))
  have b1 : Box3 W w.heap.size 37 (.bool ok) (.slice a1 ns c1) (.slice a2 nd c2) := by rw [← eW]; exact (Box3.lay w _ _ _ _).alloc _
  have b2 : Box3 W (w.heap.size + 1) 37 (.bool ok) (.slice a3 ns c3) (.slice a4 nd c4) := by
    rw [← eW]
    have := Box3.lay (w.alloc (.cells #[.bool ok, .slice a1 ns c1, .slice a2 nd c2] 37)) (.bool ok) (.slice a3 ns c3) (.slice a4 nd c4) 37
    rwa [World.size_alloc] at this
  have S1 : SlF W 41 5 lo hi (.slice a1 ns c1) ns (secs X) := SlF.on ⟨a1, c1, rfl, s1⟩ hB
  have S2 : SlF W 4 1 lo hi (.slice a2 nd c2) nd (bools D) := SlF.on ⟨a2, c2, rfl, s2⟩ hB
  have S3 : SlF W 41 5 lo' hi' (.slice a3 ns c3) ns (secs X') := SlF.on ⟨a3, c3, rfl, s3⟩ hB
  have S4 : SlF W 4 1 lo' hi' (.slice a4 nd c4) nd (bools D') := SlF.on ⟨a4, c4, rfl, s4⟩ hB
  clear s1 s2 s3 s4
  obtain ⟨y0, y1, y2⟩ := b1.cells
  obtain ⟨z0, z1, z2⟩ := b2.cells
  have l1 := Blk.lt b1
  have l2 := Blk.lt b2
  go_enter Try.func17, Try.ntmps17
  go_wp2
  clear eW y0 y1 y2 z0 z1 z2
  go_loopw [33] (fun i wr => ∃ k : Nat, k ≤ ns ∧ i = .int .i64 k ∧ Below W.heap.size W wr) (fun i _ => ns - (intOf i).toNat)
  case atStart => exact ⟨0, Nat.zero_le _, rfl, Below.refl _ _⟩
  case round =>
    obtain ⟨k, hk, rfl, hbel⟩ := hrel
    obtain ⟨y0, y1, y2⟩ := (b1.on hbel).cells
    obtain ⟨z0, z1, z2⟩ := (b2.on hbel).cells
    by_cases hlt : k < ns
    · have hi1 : (k : Int) < (ns : Int) := by omega
      obtain ⟨e1, e2, e3, h0⟩ := id S1
      cases e3
      obtain ⟨e1, e2, e3, h0'⟩ := id S3
      cases e3
      rcases h0 with h0 | ⟨g, mm, f, rfl, _, _, h2, h3, h4⟩
      · omega
      rcases h0' with h0' | ⟨g', mm', f', rfl, _, _, h2', h3', h4'⟩
      · omega
      obtain ⟨f0, f1, f2, f3, f4⟩ := five (h3.below hbel h3.lt) h2 hlt h4
      obtain ⟨g0, g1, g2, g3, g4⟩ := five (h3'.below hbel h3'.lt) h2' hlt h4'
      rw [hx k hlt] at g0 g1 g2 g3 g4
      obtain ⟨x, ex⟩ : ∃ x, X k = x := ⟨_, rfl⟩
      rw [ex] at f0 f1 f2 f3 f4 g0 g1 g2 g3 g4
      have HB : Hid (Below W.heap.size W wr) := hbel
      clear h3 h3' h4 h4' hbel S1 S2 S3 S4 b1 b2 hx he ex hB
      go_wp2
      go_region
      go_wp2
      go_roundw
      case rel => exact ⟨k + 1, by omega, by go_num, HB.out.drew⟩
      case measure => simp [intOf]; omega
    · have hkn : k = ns := by omega
      subst hkn
      have hi1 : ¬ (k : Int) < (k : Int) := by omega
      have HB : Hid (Below W.heap.size W wr) := hbel
      clear hbel
      go_wp2
      clear y0 y1 y2 z0 z1 z2
      rename World => wo
      go_loopw [51] (fun i wr => ∃ j : Nat, j ≤ nd ∧ i = .int .i64 j ∧ Below W.heap.size W wr) (fun i _ => nd - (intOf i).toNat)
      case atStart => exact ⟨0, Nat.zero_le _, rfl, HB.out⟩
      case round =>
        clear HB
        rename World => wr
        obtain ⟨j, hj, rfl, hbel⟩ := hrel
        obtain ⟨y0, y1, y2⟩ := (b1.on hbel).cells
        obtain ⟨z0, z1, z2⟩ := (b2.on hbel).cells
        by_cases hlt : j < nd
        · have hi1 : (j : Int) < (nd : Int) := by omega
          obtain ⟨e1, e2, e3, h0⟩ := id S2
          cases e3
          obtain ⟨e1, e2, e3, h0'⟩ := id S4
          cases e3
          rcases h0 with h0 | ⟨g, mm, f, rfl, _, _, h2, h3, h4⟩
          · omega
          rcases h0' with h0' | ⟨g', mm', f', rfl, _, _, h2', h3', h4'⟩
          · omega
          have f0 := one (h3.below hbel h3.lt) h2 hlt h4
          have g0 := one (h3'.below hbel h3'.lt) h2' hlt h4'
          rw [he j hlt] at g0
          obtain ⟨x, ex⟩ : ∃ x, D j = x := ⟨_, rfl⟩
          rw [ex] at f0 g0
          have HB : Hid (Below W.heap.size W wr) := hbel
          clear h3 h3' h4 h4' hbel S1 S2 S3 S4 b1 b2 hx he ex hB
          go_wp2
          go_region
          go_wp2
          go_roundw
          case rel => exact ⟨j + 1, by omega, by go_num, HB.out.drew⟩
          case measure => simp [intOf]; omega
        · have hjn : j = nd := by omega
          subst hjn
          have hi1 : ¬ (j : Int) < (j : Int) := by omega
          go_wp2
          go_ret
          exact ⟨rfl, below_on hB hbel⟩

set_option maxRecDepth 100000 in
set_option maxHeartbeats 4000000 in
theorem wDone_same (lo hi lo' hi' m ns nd : Nat) (v v' : Value) (C : Nat → Int) (B : Nat → Bool) (X : Nat → Nat → Sec) (D : Nat → Nat → Bool) (w : World) (hm : m ≤ 1048576) (hs : ns ≤ 1048576) (hd : nd ≤ 1048576) (h : DnF w lo hi v m ns nd C B X D) (h' : DnF w lo' hi' v' m ns nd C B X D) :
    Calls Try.prog 14 #[v, v'] w fun e w' => e = .returned (.bool true) ∧ Below w.heap.size w w' := by
  obtain ⟨A1, A2, L, ⟨ao, cap, rfl, h0⟩, _, _, hh⟩ := h
  obtain ⟨A1', A2', L', ⟨ao', cap', rfl, h0'⟩, _, _, hh'⟩ := h'
  go_enter Try.func14, Try.ntmps14
  go_wp2
  go_loopw [13] (fun i wr => ∃ k : Nat, k ≤ m ∧ i = .int .i64 k ∧ Below w.heap.size w wr) (fun i _ => m - (intOf i).toNat)
  case atStart => exact ⟨0, Nat.zero_le _, rfl, Below.refl _ _⟩
  case round =>
    obtain ⟨k, hk, rfl, hbel⟩ := hrel
    by_cases hlt : k < m
    · have hi1 : (k : Int) < (m : Int) := by omega
      rcases h0 with h0 | ⟨g, mm, f, rfl, _, _, h2, h3, h4⟩
      · omega
      rcases h0' with h0' | ⟨g', mm', f', rfl, _, _, h2', h3', h4'⟩
      · omega
      obtain ⟨c0, c1, c2, c3⟩ := four (h3.below hbel h3.lt) h2 hlt h4
      obtain ⟨d0, d1, d2, d3⟩ := four (h3'.below hbel h3'.lt) h2' hlt h4'
      obtain ⟨_, s1, s2⟩ := hh k hlt
      obtain ⟨_, s1', s2'⟩ := hh' k hlt
      have st : StF wr (L k) (L (k + 1)) (.agg #[.bool (B k), A1 k, A2 k]) (B k) ns nd (X k) (D k) := ⟨_, _, rfl, s1.on hbel, s2.on hbel⟩
      have st' : StF wr (L' k) (L' (k + 1)) (.agg #[.bool (B k), A1' k, A2' k]) (B k) ns nd (X k) (D k) := ⟨_, _, rfl, s1'.on hbel, s2'.on hbel⟩
      have ce : ∀ dd os, _ := fun dd os => Calls.regrown_of (wState_same _ _ _ _ ns nd _ _ (B k) (X k) (X k) (D k) (D k) (grow (redrawn wr dd) os) hs hd (st.on (below_regrown wr dd os)) (st'.on (below_regrown wr dd os)) (fun _ _ => rfl) (fun _ _ => rfl))
      have kc0 := cell_regrown c0
      have kc1 := cell_regrown c1
      have kc2 := cell_regrown c2
      have kc3 := cell_regrown c3
      have kd0 := cell_regrown d0
      have kd1 := cell_regrown d1
      have kd2 := cell_regrown d2
      have kd3 := cell_regrown d3
      have HB : Hid (Below w.heap.size w wr) := hbel
      clear h3 h3' h4 h4' hbel hh hh' s1 s2 s1' s2' st st' c0 c1 c2 c3 d0 d1 d2 d3
      go_upto_region 6 with fail
      refine wp_region_quiet_below (by kernel_rfl) (by kernel_rfl) ?_
      repeat (go_big_quiet_step (first | with_reducible exact ce _ _))
      refine wpQuiet_nil ?_
      intro _ hw'
      obtain ⟨⟨dq, osq⟩, hw''⟩ := hw'
      have hBq := below_regrown wr dq osq
      subst hw''
      clear kc0 kc1 kc2 kc3 kd0 kd1 kd2 kd3 ce
      generalize grow (redrawn wr dq) osq = wq at *
      go_wp2
      go_roundw
      case rel => exact ⟨k + 1, by omega, by go_num, below_on HB.out hBq⟩
      case measure => simp [intOf]; omega
    · have hkn : k = m := by omega
      subst hkn
      go_wp2
      go_ret
      exact ⟨rfl, hbel⟩

end Go.Proofs.Ytlpopfhaephfaaa

namespace Go.Proofs.Ytlpopfhaephfaaa
open Go.RowKit

/-- a byte of the second argument -/
def wbV (C : Nat → Int) (m i : Nat) : Int := if m = 0 then 0 else C (i % m)
theorem wbV_range {w : World} {B m : Nat} {ao : Option Addr} {C : Nat → Int} (h : Cod w B ao m C) (i : Nat) : 0 ≤ wbV C m i ∧ wbV C m i < 256 := by
  unfold wbV
  split
  · omega
  · rcases h with h | ⟨b, off, _, _, h3⟩
    · omega
    · exact (h3 _ (Nat.mod_lt _ (by omega))).2

theorem wByte_any (B m cap i : Nat) (ao : Option Addr) (C : Nat → Int) (w : World) (h : Cod w B ao m C) (hm : m ≤ 1048576) (hi : i < 100) :
    Calls Try.prog 20 #[.slice ao m cap, .int .i64 (i : Int)] w fun e w' => e = .returned (.int .i64 (wbV C m i)) ∧ w' = w := by
  obtain ⟨r1, r2⟩ := wbV_range h i
  unfold wbV at r1 r2 ⊢
  by_cases h0 : m = 0
  · subst h0
    rw [if_pos rfl]
    go_enter Try.func20, Try.ntmps20
    go_wp2
    go_ret
    exact ⟨rfl, rfl⟩
  · rw [if_neg h0] at r1 r2 ⊢
    rcases h with h | ⟨b, off, rfl, _, h3⟩
    · omega
    have hl := Nat.mod_lt i (Nat.pos_of_ne_zero h0)
    have c0 := (h3 _ hl).1
    have hm0 : ¬ (m : Int) = 0 := by omega
    have hm1 : (1 : Int) ≤ m := by omega
    have e : (i : Int) % (m : Int) = ((i % m : Nat) : Int) := by omega
    obtain ⟨j, ej⟩ : ∃ j, i % m = j := ⟨_, rfl⟩
    rw [ej] at hl c0 e r1 r2 ⊢
    clear h3
    go_enter Try.func20, Try.ntmps20
    go_wp2
    go_ret
    exact ⟨rfl, rfl⟩

/-- append of nothing -/
theorem run_append_zero {P : Program} {w : World} (base : Nat) (t ty e : TypeId) (i : TypeInfo) (size : Nat) (ht : P.underlying t = some (.slice e)) (hi : P.info? e = some i)
    (v : Value) (n : Nat) (xs : List Value) (hown : w.ownsRow base e size v n xs) (ao : Option Addr) (c : Nat) : (Builtin.append_ #[t, t] ty #[v, .slice ao 0 c]).run P w = .ok v w := by
  cases ao
  · rcases hown.2 with ⟨rfl, rfl⟩ | ⟨g, cap, cur, rfl, _, _, hnc, _⟩
    · simp [Builtin.append_, run_underlying ht, sizeOf, typeInfo, hi, Builtin.lenOf, Builtin.firstCells]
    · simp [Builtin.append_, run_underlying ht, sizeOf, typeInfo, hi, Builtin.lenOf, Builtin.firstCells, hnc, storeCells]
  · rcases hown.2 with ⟨rfl, rfl⟩ | ⟨g, cap, cur, rfl, _, _, hnc, _⟩
    · simp [Builtin.append_, run_underlying ht, sizeOf, typeInfo, hi, Builtin.lenOf, Builtin.firstCells, loadCells, loadCellsFrom]
    · simp [Builtin.append_, run_underlying ht, sizeOf, typeInfo, hi, Builtin.lenOf, Builtin.firstCells, hnc, storeCells, loadCells, loadCellsFrom]

theorem step_append_zero {P : Program} {ops : Array Oper} {o : Oper} {a : Act} {w : World} {K : Act → World → Prop} {Q : Exit → Act → World → Prop} {E : Prop}
    (hgd : o.guard = none) (s x : Operand) (t : TypeId) (ho : o.op = .call { callee := .builtin .append, args := #[s, x], argTypes := #[t, t] })
    (base : Nat) (e : TypeId) (i : TypeInfo) (size : Nat) (ht : P.underlying t = some (.slice e)) (hi : P.info? e = some i)
    (v : Value) (n : Nat) (xs : List Value) (hs : a.eval s = v) (hown : w.ownsRow base e size v n xs) (ao : Option Addr) (c : Nat) (hx : a.eval x = .slice ao 0 c) (h : K (a.put o.dst v) w) :
    if Region.wanted o (yielded ops a.tmps) = true then Oper.wp P o a w K Q else E := by
  have hw : Region.wanted o (yielded ops a.tmps) = true := by simp [Region.wanted, hgd]
  rw [if_pos hw]
  have hr := run_append_zero (P := P) (w := w) base t o.type e i size ht hi v n xs hown ao c
  unfold Oper.wp execOp
  simp only [ho, resolve, invoke, builtin, Sem.run_bind, Sem.run_pure, Result.andThen_ok, List.map_toArray, List.map_cons, List.map_nil, hs, hx, hr]
  exact h

theorem step_append_any {P : Program} {ops : Array Oper} {o : Oper} {a : Act} {w : World} {K : Act → World → Prop} {Q : Exit → Act → World → Prop} {E : Prop}
    (hgd : o.guard = none) (s x : Operand) (t : TypeId) (ho : o.op = .call { callee := .builtin .append, args := #[s, x], argTypes := #[t, t] })
    (base : Nat) (e : TypeId) (i : TypeInfo) (z : Value) (size bytes : Nat) (ht : P.underlying t = some (.slice e)) (hi : P.info? e = some i) (hz : i.zero = some z)
    (hsize : i.size = size) (hby : i.bytes = bytes) (hzs : z.cells.size = size) (hsz : 0 < size)
    (v : Value) (n : Nat) (xs : List Value) (hs : a.eval s = v) (hown : w.ownsRow base e size v n xs)
    (ao : Option Addr) (m c : Nat) (news : List Value) (hx : a.eval x = .slice ao m c) (hl : news.length = m * size) (hsrc : m = 0 ∨ ∃ ad, ao = some ad ∧ ∀ j u, news[j]? = some u → w.cell? (ad.add j) = some u) (h1 : ∀ u ∈ news, u.oneCell' = true)
    (h63 : n + m ≤ maxLen) (hbytes : (n + m) * bytes ≤ 140737488355328) (hbase : base ≤ w.heap.size)
    (h : ∀ v' w', w'.ownsRow base e size v' (n + m) (xs ++ news) → w.grownBy w' v.ownBlock → K (a.put o.dst v') w') :
    if Region.wanted o (yielded ops a.tmps) = true then Oper.wp P o a w K Q else E := by
  rcases hsrc with rfl | ⟨ad, rfl, hnews⟩
  · have hn : news = [] := List.eq_nil_of_length_eq_zero (by rw [hl]; omega)
    subst hn
    refine step_append_zero hgd s x t ho base e i size ht hi v n xs hs hown ao c hx (h v w ?_ (World.grownBy.refl _ _))
    simpa using hown
  · exact step_append_own hgd s x t ho base e i z size bytes ht hi hz hsize hby hzs hsz v n xs hs hown ad m c news hx hl hnews h1 h63 hbytes hbase (fun v' w' a b _ => h v' w' a b)

theorem own_empty (w : World) (base e sz : Nat) (hb : base ≤ w.heap.size) : (w.alloc (.cells #[] e)).ownsRow base e sz (.slice (some ⟨w.heap.size, 0, none⟩) 0 0) 0 [] :=
  ⟨by simp, .inr ⟨w.heap.size, 0, #[], rfl, hb, heap_alloc_new w _, Nat.le_refl _, by unfold maxLen; omega, by simp, by simp⟩⟩

theorem trC_len (l : List (Int × Int × Int)) : (trC l).length = l.length * 3 := by
  induction l with
  | nil => rfl
  | cons a l ih => simp only [trC, List.flatMap_cons, List.length_append, List.length_cons, List.length_nil] at ih ⊢; omega
theorem trC_app (l m : List (Int × Int × Int)) : trC (l ++ m) = trC l ++ trC m := by simp [trC]
theorem trC_one (l : List (Int × Int × Int)) : ∀ u ∈ trC l, u.oneCell' = true := by
  intro u hu
  unfold trC at hu
  obtain ⟨x, _, hx⟩ := List.mem_flatMap.1 hu
  simp only [List.mem_cons, List.not_mem_nil, or_false] at hx
  rcases hx with rfl | rfl | rfl <;> rfl

/-- a list of events in memory, as append reads it -/
theorem evl_src {w : World} {lo hi : Nat} {u : Value} {E : List (Int × Int × Int)} (h : SlF w 45 3 lo hi u E.length (evs (trP E))) : ∃ ao c, u = .slice ao E.length c ∧ (E.length = 0 ∨ ∃ ad, ao = some ad ∧ ∀ j x, (trC E)[j]? = some x → w.cell? (ad.add j) = some x) := by
  obtain ⟨ao, c, rfl, h0 | ⟨g, m, f, rfl, _, _, h2, h3, h4⟩⟩ := h
  · exact ⟨ao, c, rfl, .inl h0⟩
  · refine ⟨_, c, rfl, .inr ⟨_, rfl, fun j x hj => ?_⟩⟩
    have hlt : j < E.length * 3 := by rw [← trC_len]; exact (List.getElem?_eq_some_iff.1 hj).1
    have ea : (⟨g, 0, none⟩ : Addr).add j = ⟨g, j, none⟩ := by simp [Addr.add]; exact fun h => h.symm
    have e1 : j = j / 3 * 3 + j % 3 := by omega
    rw [ea, h3.cell (by omega)]
    rw [e1, trC_get E (j / 3) (j % 3) (by omega) (by omega)] at hj
    rw [e1, h4 (j / 3) (by omega) (j % 3) (by omega)]
    exact hj

theorem src_on {w w' : World} {lo hi : Nat} {ao : Option Addr} {c : Nat} {E : List (Int × Int × Int)} (h : SlF w 45 3 lo hi (.slice ao E.length c) E.length (evs (trP E))) (hb : Below w.heap.size w w') : E.length = 0 ∨ ∃ ad, ao = some ad ∧ ∀ j x, (trC E)[j]? = some x → w'.cell? (ad.add j) = some x := by
  obtain ⟨ao', c', e, h0⟩ := evl_src (h.on hb)
  cases e
  exact h0

/-- a list of events and two more -/
def TwoL (w wc : World) (q : Value) (E : List (Int × Int × Int)) (a b : Int × Int × Int) : Prop := SlF wc 45 3 w.heap.size wc.heap.size q (E.length + 2) (evs (trP (E ++ [a, b])))
theorem TwoL.of_own {w wc : World} {base : Nat} {q : Value} {E : List (Int × Int × Int)} {a b : Int × Int × Int} (hb : w.heap.size ≤ base) (h : wc.ownsRow base 45 3 q (0 + E.length + 2) ([] ++ trC E ++ trC [a, b])) : TwoL w wc q E a b := by
  rw [List.nil_append, ← trC_app, Nat.zero_add] at h
  exact (ow_slf h (fun i hi j hj => trC_get (E ++ [a, b]) i j (by simpa using hi) hj)).wide hb (Nat.le_refl _)

theorem nw_cells6 (w : World) (a b c d e f : Value) (t : TypeId) : ∀ j u, [a, b, c, d, e, f][j]? = some u → (w.alloc (.cells #[a, b, c, d, e, f] t)).cell? ((⟨w.heap.size, 0, none⟩ : Addr).add j) = some u := by
  intro j u hu
  have hj : j < 6 := (List.getElem?_eq_some_iff.1 hu).1
  have ea : (⟨w.heap.size, 0, none⟩ : Addr).add j = ⟨w.heap.size, j, none⟩ := by simp [Addr.add]; exact fun h => h.symm
  rw [ea]
  match j, hj with
  | 0, _ => simpa using hu
  | 1, _ => simpa using hu
  | 2, _ => simpa using hu
  | 3, _ => simpa using hu
  | 4, _ => simpa using hu
  | 5, _ => simpa using hu

/-- a block of two events -/
def Six (w : World) (b : Nat) (x y : Int × Int × Int) : Prop := Blk w b 45 6 (fun i => (trC [x, y]).getD i (.int .i64 0))
theorem Six.lay (w : World) (x y : Int × Int × Int) : Six (w.alloc (.cells #[.int .i64 x.1, .int .i64 x.2.1, .int .i64 x.2.2, .int .i64 y.1, .int .i64 y.2.1, .int .i64 y.2.2] 45)) w.heap.size x y :=
  Blk.new w #[.int .i64 x.1, .int .i64 x.2.1, .int .i64 x.2.2, .int .i64 y.1, .int .i64 y.2.1, .int .i64 y.2.2] _ _ (fun i hi => by
    simp only [List.size_toArray, List.length_cons, List.length_nil] at hi
    match i, hi with
    | 0, _ => rfl
    | 1, _ => rfl
    | 2, _ => rfl
    | 3, _ => rfl
    | 4, _ => rfl
    | 5, _ => rfl)
theorem Six.src {w : World} {b : Nat} {x y : Int × Int × Int} (h : Six w b x y) : ∀ j u, (trC [x, y])[j]? = some u → w.cell? ((⟨b, 0, none⟩ : Addr).add j) = some u := by
  intro j u hu
  have hj : j < 6 := (List.getElem?_eq_some_iff.1 hu).1
  have ea : (⟨b, 0, none⟩ : Addr).add j = ⟨b, j, none⟩ := by simp [Addr.add]; exact fun h => h.symm
  rw [ea, Blk.cell h hj]
  simp [List.getD, hu]
theorem own_two {w : World} {v : Value} {b : Nat} (hb : v.ownBlock ≠ some b) {w' : World} (hg : w.grownBy w' v.ownBlock) {x y : Int × Int × Int} (hs : Six w b x y) : Six w' b x y := by
  exact Blk.grown hs hg hb

end Go.Proofs.Ytlpopfhaephfaaa

namespace Go.Proofs.Ytlpopfhaephfaaa
open Go.RowKit

/-- what stands behind Drawn -/
structure FsI (w W : World) (lb : Nat) (S g n : Nat) (F T : Nat → Int) (top : Nat) (u : Value) (E : List (Int × Int × Int)) (a2 : Option Addr) (m2 : Nat) (C2 : Nat → Int) : Prop where
  lay : Box2 W lb 25 (.int .i64 (S : Int)) (.slice (gA g) n (gC g))
  row : CRow W g n F T
  evt : SlF W 45 3 w.heap.size top u E.length (evs (trP E))
  bel : Below w.heap.size w W
  cod : Cod W w.heap.size a2 m2 C2
theorem FsI.on {w W W' : World} {lb S g n : Nat} {F T : Nat → Int} {top : Nat} {u : Value} {E : List (Int × Int × Int)} {a2 : Option Addr} {m2 : Nat} {C2 : Nat → Int} (h : FsI w W lb S g n F T top u E a2 m2 C2) (hb : Below W.heap.size W W') : FsI w W' lb S g n F T top u E a2 m2 C2 :=
  ⟨h.lay.on hb, h.row.on hb, h.evt.on hb, below_on h.bel hb, h.cod.below (hb.mono h.bel.size)⟩

/-- the way of an axle -/
def wyZ (C : Nat → Int) (m i : Nat) : Int := 1 - 2 * (wbV C m i % 2)

set_option maxRecDepth 100000 in
set_option maxHeartbeats 8000000 in
theorem swap_some (hev : EvC false) (m1 c1 m2 c2 : Nat) (a1 a2 : Option Addr) (C1 C2 : Nat → Int) (w : World) (h1 : Cod w w.heap.size a1 m1 C1) (h2 : Cod w w.heap.size a2 m2 C2) (hm1 : m1 ≤ 1048576) (hm2 : m2 ≤ 1048576) (hn : 0 < (drL C1 m1).length) :
    Calls Try.prog 5 #[.slice a1 m1 c1, .slice a2 m2 c2] w fun e w' => e = .returned (.bool true) ∧ Below w.heap.size w w' := by
  have i1 : ¬ (1048576 : Int) < m1 := by omega
  have i2 : ¬ (1048576 : Int) < m2 := by omega
  have ok := dr_ok C1 m1
  obtain ⟨e1, e2⟩ := drE_facts C1 m1 false
  obtain ⟨s1, s2⟩ := drS_range C1 m1
  have nl := drL_len C1 m1
  have kd := drawn_of hev m1 c1 a1 C1 w h1 (by unfold maxLen; omega)
  unfold DrP at kd
  obtain ⟨S, eS⟩ : ∃ S, drS C1 m1 = S := ⟨_, rfl⟩
  obtain ⟨n, en⟩ : ∃ n, (drL C1 m1).length = n := ⟨_, rfl⟩
  obtain ⟨F, eF⟩ : ∃ F, fstF (drL C1 m1) = F := ⟨_, rfl⟩
  obtain ⟨T, eT⟩ : ∃ T, sndF (drL C1 m1) = T := ⟨_, rfl⟩
  obtain ⟨E, eE⟩ : ∃ E, drE C1 m1 false = E := ⟨_, rfl⟩
  rw [eS, en, eF, eT] at ok
  rw [eS, en, eE] at e2
  rw [eE] at e1
  rw [eS] at s1 s2
  rw [en] at nl hn
  rw [eS, en, eF, eT, eE] at kd
  clear eS en eF eT eE
  go_enter Try.func5, Try.ntmps5
  go_wp2_with fail
  refine kd.mono ?_
  rintro e w1 ⟨g, u, rfl, R1, E1, B1, _⟩
  obtain ⟨V, eV⟩ : ∃ V, w1.alloc (.cells #[.int .i64 (S : Int), .slice (gA g) n (gC g)] 25) = V := ⟨_, rfl⟩
  have IV : FsI w V w1.heap.size S g n F T w1.heap.size u E a2 m2 C2 := by
    rw [← eV]
    exact ⟨Box2.lay _ _ _ _, R1.alloc _, E1.alloc _, below_alloc B1 _, h2.below (below_alloc B1 _)⟩
  obtain ⟨y0, y1⟩ := IV.lay.cells
  have ly := IV.lay.lt
  obtain ⟨lb, elb⟩ : ∃ lb, w1.heap.size = lb := ⟨_, rfl⟩
  rw [elb] at IV y0 y1 ly
  have hn0 : ¬ (n : Int) = 0 := by omega
  have hn1 : (1 : Int) ≤ n := by omega
  obtain ⟨x0, x0'⟩ := wbV_range h2 0
  obtain ⟨x1, x1'⟩ := wbV_range h2 1
  obtain ⟨x2, x2'⟩ := wbV_range h2 2
  obtain ⟨x3, x3'⟩ := wbV_range h2 3
  have kw0 := fun W hW => wByte_any w.heap.size m2 c2 0 a2 C2 W hW hm2 (by omega)
  have kw1 := fun W hW => wByte_any w.heap.size m2 c2 1 a2 C2 W hW hm2 (by omega)
  have kw2 := fun W hW => wByte_any w.heap.size m2 c2 2 a2 C2 W hW hm2 (by omega)
  have kw3 := fun W hW => wByte_any w.heap.size m2 c2 3 a2 C2 W hW hm2 (by omega)
  obtain ⟨b0, eb0⟩ : ∃ b, wbV C2 m2 0 = b := ⟨_, rfl⟩
  obtain ⟨b1, eb1⟩ : ∃ b, wbV C2 m2 1 = b := ⟨_, rfl⟩
  obtain ⟨b2, eb2⟩ : ∃ b, wbV C2 m2 2 = b := ⟨_, rfl⟩
  obtain ⟨b3, eb3⟩ : ∃ b, wbV C2 m2 3 = b := ⟨_, rfl⟩
  rw [eb0] at x0 x0' kw0
  rw [eb1] at x1 x1' kw1
  rw [eb2] at x2 x2' kw2
  rw [eb3] at x3 x3' kw3
  obtain ⟨b0f, mm0⟩ : ∃ f, b0 % n = f := ⟨_, rfl⟩
  obtain ⟨b2f, mm2⟩ : ∃ f, b2 % n = f := ⟨_, rfl⟩
  obtain ⟨b1d, mm1⟩ : ∃ f, b1 % 2 = f := ⟨_, rfl⟩
  obtain ⟨b3d, mm3⟩ : ∃ f, b3 % 2 = f := ⟨_, rfl⟩
  have r0 : 0 ≤ b0f ∧ b0f < n := by rw [← mm0]; exact ⟨Int.emod_nonneg _ (by omega), Int.emod_lt_of_pos _ (by omega)⟩
  have r2 : 0 ≤ b2f ∧ b2f < n := by rw [← mm2]; exact ⟨Int.emod_nonneg _ (by omega), Int.emod_lt_of_pos _ (by omega)⟩
  have r1 : 0 ≤ b1d ∧ b1d < 2 := by omega
  have r3 : 0 ≤ b3d ∧ b3d < 2 := by omega
  obtain ⟨r0, r0'⟩ := r0
  obtain ⟨r1, r1'⟩ := r1
  obtain ⟨r2, r2'⟩ := r2
  obtain ⟨r3, r3'⟩ := r3
  have hnb : ((n : Int) == 0) = false := by simp; omega
  clear kd R1 E1 B1 h1 h2 eb0 eb1 eb2 eb3
  go_upto_region 7 with fail
  go_cut [8] from 45 (fun q wc => ∃ bb, q = .pointer (some ⟨bb, 0, none⟩) ∧ Box3 wc bb 45 (.int .i64 1) (.int .i64 b0f) (.int .i64 (1 - 2 * b1d)) ∧ Below V.heap.size V wc)
  case first =>
    refine wp_region_any (by kernel_rfl) ?_
    refine InC.any (C := fun W => Below V.heap.size V W) _ _ _ _ ?_
    have C0 : Below V.heap.size V V.drew := (Below.refl _ _).drew
    have CA : Below V.heap.size V (V.alloc (.cells #[.int .i64 0, .int .i64 0, .int .i64 0] 45)).drew := (by repeat (first | exact Below.refl _ _ | assumption | refine below_alloc ?_ _ | refine Below.setCell ?_ (by first | omega | (simp; done) | (simp; omega)) _ | refine Below.alloc ?_ (by first | omega | (simp; done) | (simp; omega)) _ | refine Below.drew ?_))
    have CE : Below V.heap.size V (V.alloc (.cells #[.int .i64 1, .int .i64 b0f, .int .i64 (1 - 2 * b1d)] 45)).drew := (by repeat (first | exact Below.refl _ _ | assumption | refine below_alloc ?_ _ | refine Below.setCell ?_ (by first | omega | (simp; done) | (simp; omega)) _ | refine Below.alloc ?_ (by first | omega | (simp; done) | (simp; omega)) _ | refine Below.drew ?_))
    have BE : Box3 (V.alloc (.cells #[.int .i64 1, .int .i64 b0f, .int .i64 (1 - 2 * b1d)] 45)).drew V.heap.size 45 (.int .i64 1) (.int .i64 b0f) (.int .i64 (1 - 2 * b1d)) := Box3.lay V _ _ _ _
    have cd0 : Cod V.drew w.heap.size a2 m2 C2 := IV.cod
    have cdA : Cod (V.alloc (.cells #[.int .i64 0, .int .i64 0, .int .i64 0] 45)).drew w.heap.size a2 m2 C2 := IV.cod.below (CA.mono IV.bel.size)
    refine InC.take (i := 0) (v := .slice a2 m2 c2) rfl (by kernel_rfl) (by kernel_rfl) (by kernel_rfl) (fun _ _ _ h => h) C0 (Or.inl ⟨by rfl, ?_⟩) ?_
    · intro W hW
      go_simp
    refine InC.take (i := 2) (v := .int .i64 (n : Int)) rfl (by kernel_rfl) (by kernel_rfl) (by kernel_rfl) (fun _ _ _ h => h) C0 (Or.inl ⟨by rfl, ?_⟩) ?_
    · intro W hW
      go_simp
    refine InC.take (i := 4) (v := .slice a2 m2 c2) rfl (by kernel_rfl) (by kernel_rfl) (by kernel_rfl) (fun _ _ _ h => h) C0 (Or.inl ⟨by rfl, ?_⟩) ?_
    · intro W hW
      go_simp
    refine InC.next2 (i := 1) (j := 10) (by kernel_rfl) (InC.one rfl fun K hK => ?_) (InC.one rfl fun K hK => ?_)
    · go_simp
      refine (kw0 _ cd0).mono ?_
      rintro e w2 ⟨rfl, rfl⟩
      refine hK _ _ C0 ?_
      clear hK K
      refine InC.take (i := 3) (v := .int .i64 b0f) rfl (by kernel_rfl) (by kernel_rfl) (by kernel_rfl) (fun _ _ _ h => h) C0 (Or.inl ⟨by rfl, ?_⟩) ?_
      · intro W hW
        go_simp
        rw [if_neg (by omega), Int.tmod_eq_emod_of_nonneg x0, mm0]
      refine InC.next2 (i := 5) (j := 10) (by kernel_rfl) (InC.one rfl fun K hK => ?_) (InC.one rfl fun K hK => ?_)
      · go_simp
        refine (kw1 _ cd0).mono ?_
        rintro e w2 ⟨rfl, rfl⟩
        refine hK _ _ C0 ?_
        clear hK K
        refine InC.take (i := 6) (v := .int .i64 b1d) rfl (by kernel_rfl) (by kernel_rfl) (by kernel_rfl) (fun _ _ _ h => h) C0 (Or.inl ⟨by rfl, ?_⟩) ?_
        · intro W hW
          go_simp
          rw [Int.tmod_eq_emod_of_nonneg x1, mm1]
        refine InC.take (i := 7) (v := .int .i64 (2 * b1d)) rfl (by kernel_rfl) (by kernel_rfl) (by kernel_rfl) (fun _ _ _ h => h) C0 (Or.inl ⟨by rfl, ?_⟩) ?_
        · intro W hW
          go_simp
          exact IntWalk.i64_in _ (by omega)
        refine InC.take (i := 8) (v := .int .i64 (1 - 2 * b1d)) rfl (by kernel_rfl) (by kernel_rfl) (by kernel_rfl) (fun _ _ _ h => h) C0 (Or.inl ⟨by rfl, ?_⟩) ?_
        · intro W hW
          go_simp
          exact IntWalk.i64_in _ (by omega)
        refine InC.take (i := 9) (v := (.agg #[.int .i64 1, .int .i64 b0f, .int .i64 (1 - 2 * b1d)])) rfl (by kernel_rfl) (by kernel_rfl) (by kernel_rfl) (fun _ _ _ h => h) C0 (Or.inl ⟨by rfl, ?_⟩) ?_
        · intro W hW
          go_simp
        refine InC.next1 (i := 10) (by kernel_rfl) (InC.one rfl fun K hK => ?_)
        go_simp
        refine hK _ _ CA ?_
        clear hK K
        refine InC.next1 (i := 11) (by kernel_rfl) (InC.one rfl fun K hK => ?_)
        go_simp
        refine hK _ _ CE ?_
        clear hK K
        refine InC.done (by kernel_rfl) ?_
        go_wp2_with fail
        go_meet
        case rel => exact ⟨_, rfl, BE, CE⟩
      · go_simp
        refine hK _ _ CA ?_
        clear hK K
        refine InC.next1 (i := 5) (by kernel_rfl) (InC.one rfl fun K hK => ?_)
        go_simp
        refine (kw1 _ cdA).mono ?_
        rintro e w2 ⟨rfl, rfl⟩
        refine hK _ _ CA ?_
        clear hK K
        refine InC.take (i := 6) (v := .int .i64 b1d) rfl (by kernel_rfl) (by kernel_rfl) (by kernel_rfl) (fun _ _ _ h => h) CA (Or.inl ⟨by rfl, ?_⟩) ?_
        · intro W hW
          go_simp
          rw [Int.tmod_eq_emod_of_nonneg x1, mm1]
        refine InC.take (i := 7) (v := .int .i64 (2 * b1d)) rfl (by kernel_rfl) (by kernel_rfl) (by kernel_rfl) (fun _ _ _ h => h) CA (Or.inl ⟨by rfl, ?_⟩) ?_
        · intro W hW
          go_simp
          exact IntWalk.i64_in _ (by omega)
        refine InC.take (i := 8) (v := .int .i64 (1 - 2 * b1d)) rfl (by kernel_rfl) (by kernel_rfl) (by kernel_rfl) (fun _ _ _ h => h) CA (Or.inl ⟨by rfl, ?_⟩) ?_
        · intro W hW
          go_simp
          exact IntWalk.i64_in _ (by omega)
        refine InC.take (i := 9) (v := (.agg #[.int .i64 1, .int .i64 b0f, .int .i64 (1 - 2 * b1d)])) rfl (by kernel_rfl) (by kernel_rfl) (by kernel_rfl) (fun _ _ _ h => h) CA (Or.inl ⟨by rfl, ?_⟩) ?_
        · intro W hW
          go_simp
        refine InC.next1 (i := 11) (by kernel_rfl) (InC.one rfl fun K hK => ?_)
        go_simp
        refine hK _ _ CE ?_
        clear hK K
        refine InC.done (by kernel_rfl) ?_
        go_wp2_with fail
        go_meet
        case rel => exact ⟨_, rfl, BE, CE⟩
    · go_simp
      refine hK _ _ CA ?_
      clear hK K
      refine InC.next1 (i := 1) (by kernel_rfl) (InC.one rfl fun K hK => ?_)
      go_simp
      refine (kw0 _ cdA).mono ?_
      rintro e w2 ⟨rfl, rfl⟩
      refine hK _ _ CA ?_
      clear hK K
      refine InC.take (i := 3) (v := .int .i64 b0f) rfl (by kernel_rfl) (by kernel_rfl) (by kernel_rfl) (fun _ _ _ h => h) CA (Or.inl ⟨by rfl, ?_⟩) ?_
      · intro W hW
        go_simp
        rw [if_neg (by omega), Int.tmod_eq_emod_of_nonneg x0, mm0]
      refine InC.next1 (i := 5) (by kernel_rfl) (InC.one rfl fun K hK => ?_)
      go_simp
      refine (kw1 _ cdA).mono ?_
      rintro e w2 ⟨rfl, rfl⟩
      refine hK _ _ CA ?_
      clear hK K
      refine InC.take (i := 6) (v := .int .i64 b1d) rfl (by kernel_rfl) (by kernel_rfl) (by kernel_rfl) (fun _ _ _ h => h) CA (Or.inl ⟨by rfl, ?_⟩) ?_
      · intro W hW
        go_simp
        rw [Int.tmod_eq_emod_of_nonneg x1, mm1]
      refine InC.take (i := 7) (v := .int .i64 (2 * b1d)) rfl (by kernel_rfl) (by kernel_rfl) (by kernel_rfl) (fun _ _ _ h => h) CA (Or.inl ⟨by rfl, ?_⟩) ?_
      · intro W hW
        go_simp
        exact IntWalk.i64_in _ (by omega)
      refine InC.take (i := 8) (v := .int .i64 (1 - 2 * b1d)) rfl (by kernel_rfl) (by kernel_rfl) (by kernel_rfl) (fun _ _ _ h => h) CA (Or.inl ⟨by rfl, ?_⟩) ?_
      · intro W hW
        go_simp
        exact IntWalk.i64_in _ (by omega)
      refine InC.take (i := 9) (v := (.agg #[.int .i64 1, .int .i64 b0f, .int .i64 (1 - 2 * b1d)])) rfl (by kernel_rfl) (by kernel_rfl) (by kernel_rfl) (fun _ _ _ h => h) CA (Or.inl ⟨by rfl, ?_⟩) ?_
      · intro W hW
        go_simp
      refine InC.next1 (i := 11) (by kernel_rfl) (InC.one rfl fun K hK => ?_)
      go_simp
      refine hK _ _ CE ?_
      clear hK K
      refine InC.done (by kernel_rfl) ?_
      go_wp2_with fail
      go_meet
      case rel => exact ⟨_, rfl, BE, CE⟩
  case rest =>
    obtain ⟨bb, rfl, X1, B2⟩ := hcut
    rename World => V8
    have IV8 := IV.on B2
    clear y0 y1 ly
    obtain ⟨y0, y1⟩ := IV8.lay.cells
    have ly := IV8.lay.lt
    go_upto_region 8 with fail
    go_cut [9] from 55 (fun q wc => ∃ bb, q = .pointer (some ⟨bb, 0, none⟩) ∧ Box3 wc bb 45 (.int .i64 1) (.int .i64 b2f) (.int .i64 (1 - 2 * b3d)) ∧ Below V8.heap.size V8 wc)
    case first =>
      refine wp_region_any (by kernel_rfl) ?_
      refine InC.any (C := fun W => Below V8.heap.size V8 W) _ _ _ _ ?_
      have C0 : Below V8.heap.size V8 V8.drew := (Below.refl _ _).drew
      have CA : Below V8.heap.size V8 (V8.alloc (.cells #[.int .i64 0, .int .i64 0, .int .i64 0] 45)).drew := (by repeat (first | exact Below.refl _ _ | assumption | refine below_alloc ?_ _ | refine Below.setCell ?_ (by first | omega | (simp; done) | (simp; omega)) _ | refine Below.alloc ?_ (by first | omega | (simp; done) | (simp; omega)) _ | refine Below.drew ?_))
      have CE : Below V8.heap.size V8 (V8.alloc (.cells #[.int .i64 1, .int .i64 b2f, .int .i64 (1 - 2 * b3d)] 45)).drew := (by repeat (first | exact Below.refl _ _ | assumption | refine below_alloc ?_ _ | refine Below.setCell ?_ (by first | omega | (simp; done) | (simp; omega)) _ | refine Below.alloc ?_ (by first | omega | (simp; done) | (simp; omega)) _ | refine Below.drew ?_))
      have BE : Box3 (V8.alloc (.cells #[.int .i64 1, .int .i64 b2f, .int .i64 (1 - 2 * b3d)] 45)).drew V8.heap.size 45 (.int .i64 1) (.int .i64 b2f) (.int .i64 (1 - 2 * b3d)) := Box3.lay V8 _ _ _ _
      have cd0 : Cod V8.drew w.heap.size a2 m2 C2 := IV8.cod
      have cdA : Cod (V8.alloc (.cells #[.int .i64 0, .int .i64 0, .int .i64 0] 45)).drew w.heap.size a2 m2 C2 := IV8.cod.below (CA.mono IV8.bel.size)
      refine InC.take (i := 0) (v := .slice a2 m2 c2) rfl (by kernel_rfl) (by kernel_rfl) (by kernel_rfl) (fun _ _ _ h => h) C0 (Or.inl ⟨by rfl, ?_⟩) ?_
      · intro W hW
        go_simp
      refine InC.take (i := 2) (v := .int .i64 (n : Int)) rfl (by kernel_rfl) (by kernel_rfl) (by kernel_rfl) (fun _ _ _ h => h) C0 (Or.inl ⟨by rfl, ?_⟩) ?_
      · intro W hW
        go_simp
      refine InC.take (i := 4) (v := .slice a2 m2 c2) rfl (by kernel_rfl) (by kernel_rfl) (by kernel_rfl) (fun _ _ _ h => h) C0 (Or.inl ⟨by rfl, ?_⟩) ?_
      · intro W hW
        go_simp
      refine InC.next2 (i := 1) (j := 10) (by kernel_rfl) (InC.one rfl fun K hK => ?_) (InC.one rfl fun K hK => ?_)
      · go_simp
        refine (kw2 _ cd0).mono ?_
        rintro e w2 ⟨rfl, rfl⟩
        refine hK _ _ C0 ?_
        clear hK K
        refine InC.take (i := 3) (v := .int .i64 b2f) rfl (by kernel_rfl) (by kernel_rfl) (by kernel_rfl) (fun _ _ _ h => h) C0 (Or.inl ⟨by rfl, ?_⟩) ?_
        · intro W hW
          go_simp
          rw [if_neg (by omega), Int.tmod_eq_emod_of_nonneg x2, mm2]
        refine InC.next2 (i := 5) (j := 10) (by kernel_rfl) (InC.one rfl fun K hK => ?_) (InC.one rfl fun K hK => ?_)
        · go_simp
          refine (kw3 _ cd0).mono ?_
          rintro e w2 ⟨rfl, rfl⟩
          refine hK _ _ C0 ?_
          clear hK K
          refine InC.take (i := 6) (v := .int .i64 b3d) rfl (by kernel_rfl) (by kernel_rfl) (by kernel_rfl) (fun _ _ _ h => h) C0 (Or.inl ⟨by rfl, ?_⟩) ?_
          · intro W hW
            go_simp
            rw [Int.tmod_eq_emod_of_nonneg x3, mm3]
          refine InC.take (i := 7) (v := .int .i64 (2 * b3d)) rfl (by kernel_rfl) (by kernel_rfl) (by kernel_rfl) (fun _ _ _ h => h) C0 (Or.inl ⟨by rfl, ?_⟩) ?_
          · intro W hW
            go_simp
            exact IntWalk.i64_in _ (by omega)
          refine InC.take (i := 8) (v := .int .i64 (1 - 2 * b3d)) rfl (by kernel_rfl) (by kernel_rfl) (by kernel_rfl) (fun _ _ _ h => h) C0 (Or.inl ⟨by rfl, ?_⟩) ?_
          · intro W hW
            go_simp
            exact IntWalk.i64_in _ (by omega)
          refine InC.take (i := 9) (v := (.agg #[.int .i64 1, .int .i64 b2f, .int .i64 (1 - 2 * b3d)])) rfl (by kernel_rfl) (by kernel_rfl) (by kernel_rfl) (fun _ _ _ h => h) C0 (Or.inl ⟨by rfl, ?_⟩) ?_
          · intro W hW
            go_simp
          refine InC.next1 (i := 10) (by kernel_rfl) (InC.one rfl fun K hK => ?_)
          go_simp
          refine hK _ _ CA ?_
          clear hK K
          refine InC.next1 (i := 11) (by kernel_rfl) (InC.one rfl fun K hK => ?_)
          go_simp
          refine hK _ _ CE ?_
          clear hK K
          refine InC.done (by kernel_rfl) ?_
          go_wp2_with fail
          go_meet
          case rel => exact ⟨_, rfl, BE, CE⟩
        · go_simp
          refine hK _ _ CA ?_
          clear hK K
          refine InC.next1 (i := 5) (by kernel_rfl) (InC.one rfl fun K hK => ?_)
          go_simp
          refine (kw3 _ cdA).mono ?_
          rintro e w2 ⟨rfl, rfl⟩
          refine hK _ _ CA ?_
          clear hK K
          refine InC.take (i := 6) (v := .int .i64 b3d) rfl (by kernel_rfl) (by kernel_rfl) (by kernel_rfl) (fun _ _ _ h => h) CA (Or.inl ⟨by rfl, ?_⟩) ?_
          · intro W hW
            go_simp
            rw [Int.tmod_eq_emod_of_nonneg x3, mm3]
          refine InC.take (i := 7) (v := .int .i64 (2 * b3d)) rfl (by kernel_rfl) (by kernel_rfl) (by kernel_rfl) (fun _ _ _ h => h) CA (Or.inl ⟨by rfl, ?_⟩) ?_
          · intro W hW
            go_simp
            exact IntWalk.i64_in _ (by omega)
          refine InC.take (i := 8) (v := .int .i64 (1 - 2 * b3d)) rfl (by kernel_rfl) (by kernel_rfl) (by kernel_rfl) (fun _ _ _ h => h) CA (Or.inl ⟨by rfl, ?_⟩) ?_
          · intro W hW
            go_simp
            exact IntWalk.i64_in _ (by omega)
          refine InC.take (i := 9) (v := (.agg #[.int .i64 1, .int .i64 b2f, .int .i64 (1 - 2 * b3d)])) rfl (by kernel_rfl) (by kernel_rfl) (by kernel_rfl) (fun _ _ _ h => h) CA (Or.inl ⟨by rfl, ?_⟩) ?_
          · intro W hW
            go_simp
          refine InC.next1 (i := 11) (by kernel_rfl) (InC.one rfl fun K hK => ?_)
          go_simp
          refine hK _ _ CE ?_
          clear hK K
          refine InC.done (by kernel_rfl) ?_
          go_wp2_with fail
          go_meet
          case rel => exact ⟨_, rfl, BE, CE⟩
      · go_simp
        refine hK _ _ CA ?_
        clear hK K
        refine InC.next1 (i := 1) (by kernel_rfl) (InC.one rfl fun K hK => ?_)
        go_simp
        refine (kw2 _ cdA).mono ?_
        rintro e w2 ⟨rfl, rfl⟩
        refine hK _ _ CA ?_
        clear hK K
        refine InC.take (i := 3) (v := .int .i64 b2f) rfl (by kernel_rfl) (by kernel_rfl) (by kernel_rfl) (fun _ _ _ h => h) CA (Or.inl ⟨by rfl, ?_⟩) ?_
        · intro W hW
          go_simp
          rw [if_neg (by omega), Int.tmod_eq_emod_of_nonneg x2, mm2]
        refine InC.next1 (i := 5) (by kernel_rfl) (InC.one rfl fun K hK => ?_)
        go_simp
        refine (kw3 _ cdA).mono ?_
        rintro e w2 ⟨rfl, rfl⟩
        refine hK _ _ CA ?_
        clear hK K
        refine InC.take (i := 6) (v := .int .i64 b3d) rfl (by kernel_rfl) (by kernel_rfl) (by kernel_rfl) (fun _ _ _ h => h) CA (Or.inl ⟨by rfl, ?_⟩) ?_
        · intro W hW
          go_simp
          rw [Int.tmod_eq_emod_of_nonneg x3, mm3]
        refine InC.take (i := 7) (v := .int .i64 (2 * b3d)) rfl (by kernel_rfl) (by kernel_rfl) (by kernel_rfl) (fun _ _ _ h => h) CA (Or.inl ⟨by rfl, ?_⟩) ?_
        · intro W hW
          go_simp
          exact IntWalk.i64_in _ (by omega)
        refine InC.take (i := 8) (v := .int .i64 (1 - 2 * b3d)) rfl (by kernel_rfl) (by kernel_rfl) (by kernel_rfl) (fun _ _ _ h => h) CA (Or.inl ⟨by rfl, ?_⟩) ?_
        · intro W hW
          go_simp
          exact IntWalk.i64_in _ (by omega)
        refine InC.take (i := 9) (v := (.agg #[.int .i64 1, .int .i64 b2f, .int .i64 (1 - 2 * b3d)])) rfl (by kernel_rfl) (by kernel_rfl) (by kernel_rfl) (fun _ _ _ h => h) CA (Or.inl ⟨by rfl, ?_⟩) ?_
        · intro W hW
          go_simp
        refine InC.next1 (i := 11) (by kernel_rfl) (InC.one rfl fun K hK => ?_)
        go_simp
        refine hK _ _ CE ?_
        clear hK K
        refine InC.done (by kernel_rfl) ?_
        go_wp2_with fail
        go_meet
        case rel => exact ⟨_, rfl, BE, CE⟩
    case rest =>
      obtain ⟨bc, rfl, X2, B3⟩ := hcut
      rename World => V9
      have IV9 := IV8.on B3
      have X1 := X1.on B3
      obtain ⟨fa, efa⟩ : ∃ fa : Nat, b0f = fa := ⟨b0f.toNat, by omega⟩
      obtain ⟨fb, efb⟩ : ∃ fb : Nat, b2f = fb := ⟨b2f.toNat, by omega⟩
      subst efa
      subst efb
      have hfa : fa < n := by omega
      have hfb : fb < n := by omega
      clear y0 y1 ly IV IV8 B2 B3 mm0 mm1 mm2 mm3 x0 x0' x1 x1' x2 x2' x3 x3' kw0 kw1 kw2 kw3
      obtain ⟨y0, y1⟩ := IV9.lay.cells
      have ly := IV9.lay.lt
      obtain ⟨gb, eg, lg, c0, c1, _⟩ := IV9.row.at hfa
      obtain ⟨gb', eg', _, d0, d1, _⟩ := IV9.row.at hfb
      have : gb' = gb := by rw [eg] at eg'; simpa using eg'.symm
      subst this
      rw [eg] at y1
      clear eg eg'
      obtain ⟨p0, p1, p2⟩ := X1.cells
      obtain ⟨q0, q1, q2⟩ := X2.cells
      have l1 := Blk.lt X1
      have l2 := Blk.lt X2
      obtain ⟨vF, evF⟩ : ∃ v, F fa = v := ⟨_, rfl⟩
      obtain ⟨vT, evT⟩ : ∃ v, T fa = v := ⟨_, rfl⟩
      obtain ⟨zF, ezF⟩ : ∃ v, F fb = v := ⟨_, rfl⟩
      obtain ⟨zT, ezT⟩ : ∃ v, T fb = v := ⟨_, rfl⟩
      rw [evF] at c0
      rw [evT] at c1
      rw [ezF] at d0
      rw [ezT] at d1
      obtain ⟨U, eU⟩ : ∃ U, ((V9.alloc (.cells #[.int .i64 vF, .int .i64 vT] 51)).alloc (.cells #[.int .i64 zF, .int .i64 zT] 51)).alloc (.cells #[.int .i64 vF, .int .i64 vT] 3) = U := ⟨_, rfl⟩
      have BU : Below V9.heap.size V9 U := by rw [← eU]; exact (by repeat (first | exact Below.refl _ _ | assumption | refine below_alloc ?_ _ | refine Below.setCell ?_ (by first | omega | (simp; done) | (simp; omega)) _ | refine Below.alloc ?_ (by first | omega | (simp; done) | (simp; omega)) _ | refine Below.drew ?_))
      have yb : Box2 U (V9.heap.size + 1) 51 (.int .i64 zF) (.int .i64 zT) := by
        rw [← eU]
        have := (Box2.lay (V9.alloc (.cells #[.int .i64 vF, .int .i64 vT] 51)) (.int .i64 zF) (.int .i64 zT) 51).alloc (.cells #[.int .i64 vF, .int .i64 vT] 3)
        rwa [World.size_alloc] at this
      have sb : Box2 U (V9.heap.size + 1 + 1) 3 (.int .i64 vF) (.int .i64 vT) := by
        rw [← eU]
        have := Box2.lay ((V9.alloc (.cells #[.int .i64 vF, .int .i64 vT] 51)).alloc (.cells #[.int .i64 zF, .int .i64 zT] 51)) (.int .i64 vF) (.int .i64 vT) 3
        rwa [World.size_alloc, World.size_alloc] at this
      have IU := IV9.on BU
      have X1 := X1.on BU
      have X2 := X2.on BU
      obtain ⟨f0, f1⟩ := yb.cells
      obtain ⟨h0, h1⟩ := sb.cells
      have ap : (¬ (0 ≤ vF ∧ (vF = zF ∨ vF = zT))) → (¬ (0 ≤ vT ∧ (vT = zF ∨ vT = zT))) → apartB F T fa fb := by
        intro k1 k2 i hi hj
        rw [evF, evT] at hi
        rw [ezF, ezT] at hj
        omega
      have HAP : Hid _ := ap
      clear ap evF evT ezF ezT
      go_wp2
      clear c0 c1 d0 d1 p0 p1 p2 q0 q1 q2 l1 l2 lg y0 y1 ly eU BU IV9 yb sb
      go_loopw [12, 83] (fun q i wr => ∃ (k : Nat) (b : Bool), k ≤ 2 ∧ i = .int .i64 k ∧ q = .bool b ∧ wr = U ∧ (b = false → (0 < k → ¬ (0 ≤ vF ∧ (vF = zF ∨ vF = zT))) ∧ (1 < k → ¬ (0 ≤ vT ∧ (vT = zF ∨ vT = zT))))) (fun _ i _ => 2 - (intOf i).toNat)
      case atStart => exact ⟨0, false, by omega, rfl, rfl, rfl, fun _ => ⟨fun h => by omega, fun h => by omega⟩⟩
      case round =>
        obtain ⟨k, b, hk, rfl, rfl, rfl, hb⟩ := hrel
        by_cases hlt : k < 2
        · rcases (show k = 0 ∨ k = 1 by omega) with rfl | rfl
          · cases b
            · by_cases a1 : 0 ≤ vF
              · by_cases a2 : vF = zF
                · have a2b : (vF == zF) = true := by simp [a2]
                  clear a2
                  go_wp2
                  go_roundw
                  case rel => exact ⟨1, true, by omega, by simp, rfl, trivial, fun h => (by cases h)⟩
                  case measure => simp [intOf]
                · have a2b : (vF == zF) = false := by simp [a2]
                  by_cases a3 : vF = zT
                  · have a3b : (vF == zT) = true := by simp [a3]
                    clear a2 a3
                    go_wp2
                    go_roundw
                    case rel => exact ⟨1, true, by omega, by simp, rfl, trivial, fun h => (by cases h)⟩
                    case measure => simp [intOf]
                  · have a3b : (vF == zT) = false := by simp [a3]
                    have A2 : Hid (¬ vF = zF) := a2
                    have A3 : Hid (¬ vF = zT) := a3
                    clear a2 a3
                    go_wp2
                    go_roundw
                    case rel => exact ⟨1, false, by omega, by simp, rfl, trivial, fun _ => ⟨fun _ h => (by have := A2.out; have := A3.out; omega), fun h => by omega⟩⟩
                    case measure => simp [intOf]
              · have A1 : Hid (¬ 0 ≤ vF) := a1
                go_wp2
                go_roundw
                case rel => exact ⟨1, false, by omega, by simp, rfl, trivial, fun _ => ⟨fun _ h => A1.out h.1, fun h => by omega⟩⟩
                case measure => simp [intOf]
            · go_wp2
              go_roundw
              case rel => exact ⟨1, true, by omega, by simp, rfl, trivial, fun h => (by cases h)⟩
              case measure => simp [intOf]
          · cases b
            · by_cases a1 : 0 ≤ vT
              · by_cases a2 : vT = zF
                · have a2b : (vT == zF) = true := by simp [a2]
                  clear a2
                  go_wp2
                  go_roundw
                  case rel => exact ⟨2, true, by omega, by simp, rfl, trivial, fun h => (by cases h)⟩
                  case measure => simp [intOf]
                · have a2b : (vT == zF) = false := by simp [a2]
                  by_cases a3 : vT = zT
                  · have a3b : (vT == zT) = true := by simp [a3]
                    clear a2 a3
                    go_wp2
                    go_roundw
                    case rel => exact ⟨2, true, by omega, by simp, rfl, trivial, fun h => (by cases h)⟩
                    case measure => simp [intOf]
                  · have a3b : (vT == zT) = false := by simp [a3]
                    have A2 : Hid (¬ vT = zF) := a2
                    have A3 : Hid (¬ vT = zT) := a3
                    clear a2 a3
                    go_wp2
                    go_roundw
                    case rel => exact ⟨2, false, by omega, by simp, rfl, trivial, fun _ => ⟨fun _ => (hb rfl).1 (by omega), fun _ h => (by have := A2.out; have := A3.out; omega)⟩⟩
                    case measure => simp [intOf]
              · have A1 : Hid (¬ 0 ≤ vT) := a1
                go_wp2
                go_roundw
                case rel => exact ⟨2, false, by omega, by simp, rfl, trivial, fun _ => ⟨fun _ => (hb rfl).1 (by omega), fun _ h => A1.out h.1⟩⟩
                case measure => simp [intOf]
            · go_wp2
              go_roundw
              case rel => exact ⟨2, true, by omega, by simp, rfl, trivial, fun h => (by cases h)⟩
              case measure => simp [intOf]
        · have hk2 : k = 2 := by omega
          subst hk2
          have apt : b = false → apartB F T fa fb := fun h => HAP.out ((hb h).1 (by omega)) ((hb h).2 (by omega))
          have APT : Hid _ := apt
          clear apt hb HAP f0 f1 h0 h1 hlt hk
          have HBW : Hid (w.heap.size ≤ wr.heap.size) := IU.bel.size
          obtain ⟨au, cu, eu, _⟩ := evl_src IU.evt
          subst eu
          have hi2 : ¬ (2 : Int) < 2 := by omega
          obtain ⟨da, eda⟩ : ∃ d, 1 - 2 * b1d = d := ⟨_, rfl⟩
          obtain ⟨db, edb⟩ : ∃ d, 1 - 2 * b3d = d := ⟨_, rfl⟩
          rw [eda] at X1
          rw [edb] at X2
          have hda : da = 1 ∨ da = -1 := by omega
          have hdb : db = 1 ∨ db = -1 := by omega
          have ea : evB (S : Int) n 1 (fa : Int) da = true := by
            unfold evB; rw [if_pos (.inl rfl)]; exact decide_eq_true ⟨by omega, by omega, hda⟩
          have eb : evB (S : Int) n 1 (fb : Int) db = true := by
            unfold evB; rw [if_pos (.inl rfl)]; exact decide_eq_true ⟨by omega, by omega, hdb⟩
          clear eda edb r1 r1' r3 r3' hda hdb
          have EA : Hid _ := ea
          have EB : Hid _ := eb
          have OK : Hid _ := ok
          clear ea eb ok e2
          obtain ⟨j0, gi, gz0, gz1, gz2⟩ := info_parts Try.infoEx
          go_upto_region 17 with fail
          go_cut [15] from 105 (fun q wc => TwoL w wc q E (1, (fa : Int), da) (1, (fb : Int), db) ∧ Below wr.heap.size wr wc)
          case first =>
            have HBE : Hid (w.heap.size ≤ wr.heap.size) := HBW.out
            have e29 : E.length ≤ 29 := e1
            refine wp_region_any (by kernel_rfl) ?_
            refine InC.any (C := fun W => Below wr.heap.size wr W) _ _ _ _ ?_
            have C0 : Below wr.heap.size wr wr.drew := (Below.refl _ _).drew
            have C1 : Below wr.heap.size wr (wr.alloc (.cells #[] 45)).drew := (by repeat (first | exact Below.refl _ _ | assumption | refine below_alloc ?_ _ | refine Below.setCell ?_ (by first | omega | (simp; done) | (simp; omega)) _ | refine Below.alloc ?_ (by first | omega | (simp; done) | (simp; omega)) _ | refine Below.drew ?_))
            have C1' : Below wr.heap.size wr (wr.alloc (.cells #[.int .i64 1, .int .i64 (fa : Int), .int .i64 da, .int .i64 1, .int .i64 (fb : Int), .int .i64 db] 45)).drew := (by repeat (first | exact Below.refl _ _ | assumption | refine below_alloc ?_ _ | refine Below.setCell ?_ (by first | omega | (simp; done) | (simp; omega)) _ | refine Below.alloc ?_ (by first | omega | (simp; done) | (simp; omega)) _ | refine Below.drew ?_))
            have O1 : (wr.alloc (.cells #[] 45)).drew.ownsRow wr.heap.size 45 3 (.slice (some ⟨wr.heap.size, 0, none⟩) 0 0) 0 [] := own_empty wr _ _ _ (Nat.le_refl _)
            have S1 : Six (wr.alloc (.cells #[.int .i64 1, .int .i64 (fa : Int), .int .i64 da, .int .i64 1, .int .i64 (fb : Int), .int .i64 db] 45)).drew wr.heap.size (1, (fa : Int), da) (1, (fb : Int), db) := Six.lay wr (1, (fa : Int), da) (1, (fb : Int), db)
            have evt := IU.evt
            refine InC.take (i := 1) (v := .slice au E.length cu) rfl (by kernel_rfl) (by kernel_rfl) (by kernel_rfl) (fun _ _ _ h => h) C0 (Or.inl ⟨by rfl, ?_⟩) ?_
            · intro W hW
              go_simp
            refine InC.take (i := 3) (v := .agg #[.int .i64 1, .int .i64 (fa : Int), .int .i64 da]) rfl (by kernel_rfl) (by kernel_rfl) (by kernel_rfl) (fun _ _ _ h => h) C0 (Or.inl ⟨by rfl, ?_⟩) ?_
            · intro W hW
              obtain ⟨k0, k1, k2⟩ := (X1.on hW).cells
              go_simp
            refine InC.take (i := 4) (v := .agg #[.int .i64 1, .int .i64 (fb : Int), .int .i64 db]) rfl (by kernel_rfl) (by kernel_rfl) (by kernel_rfl) (fun _ _ _ h => h) C0 (Or.inl ⟨by rfl, ?_⟩) ?_
            · intro W hW
              obtain ⟨k0, k1, k2⟩ := (X2.on hW).cells
              go_simp
            refine InC.next2 (i := 0) (j := 5) (by kernel_rfl) (InC.one rfl fun K hK => ?_) (InC.one rfl fun K hK => ?_)
            · go_simp
              refine hK _ _ C1 ?_
              clear hK K
              refine InC.next2 (i := 2) (j := 5) (by kernel_rfl) (InC.one rfl fun K hK => ?_) (InC.one rfl fun K hK => ?_)
              · refine step_append_any rfl (.tmp 105) (.tmp 106) 26 rfl wr.heap.size 45 j0 _ 3 24 Try.underlying26 gi gz0 gz1 gz2 rfl (by decide) (.slice (some ⟨wr.heap.size, 0, none⟩) 0 0) 0 [] rfl O1 au E.length cu (trC E) rfl (trC_len E) (src_on evt C1) (trC_one E) (by unfold maxLen; omega) (by omega) C1.size ?_
                intro v2 W2 own2 gr2
                have C2 : Below wr.heap.size wr W2 := C1.trans ((ow_grown O1 gr2).below (Nat.le_refl _) C1.size)
                refine hK _ _ C2 ?_
                clear hK K
                refine InC.next1 (i := 5) (by kernel_rfl) (InC.one rfl fun K hK => ?_)
                go_simp
                have C3 : Below wr.heap.size wr (W2.alloc (.cells #[.int .i64 1, .int .i64 (fa : Int), .int .i64 da, .int .i64 1, .int .i64 (fb : Int), .int .i64 db] 45)) := below_alloc C2 _
                refine hK _ _ C3 ?_
                clear hK K
                have own3 := ow_on own2 (show Below W2.heap.size W2 (W2.alloc (.cells #[.int .i64 1, .int .i64 (fa : Int), .int .i64 da, .int .i64 1, .int .i64 (fb : Int), .int .i64 db] 45)) from (by repeat (first | exact Below.refl _ _ | assumption | refine below_alloc ?_ _ | refine Below.setCell ?_ (by first | omega | (simp; done) | (simp; omega)) _ | refine Below.alloc ?_ (by first | omega | (simp; done) | (simp; omega)) _ | refine Below.drew ?_)))
                have S3 : Six (W2.alloc (.cells #[.int .i64 1, .int .i64 (fa : Int), .int .i64 da, .int .i64 1, .int .i64 (fb : Int), .int .i64 db] 45)) W2.heap.size (1, (fa : Int), da) (1, (fb : Int), db) := Six.lay W2 (1, (fa : Int), da) (1, (fb : Int), db)
                refine InC.next1 (i := 6) (by kernel_rfl) (InC.one rfl fun K hK => ?_)
                refine step_append_any rfl (.tmp 107) (.tmp 110) 26 rfl wr.heap.size 45 j0 _ 3 24 Try.underlying26 gi gz0 gz1 gz2 rfl (by decide) v2 (0 + E.length) ([] ++ trC E) rfl own3 (some ⟨W2.heap.size, 0, none⟩) 2 2 (trC [(1, (fa : Int), da), (1, (fb : Int), db)]) rfl rfl (.inr ⟨_, rfl, S3.src⟩) (trC_one _) (by unfold maxLen; omega) (by omega) C3.size ?_
                intro v4 W4 own4 gr4
                have C4 : Below wr.heap.size wr W4 := C3.trans ((ow_grown own3 gr4).below (Nat.le_refl _) C3.size)
                refine hK _ _ C4 ?_
                clear hK K
                refine InC.next1 (i := 7) (by kernel_rfl) (InC.one rfl fun K hK => ?_)
                go_simp
                refine hK _ _ C4 ?_
                clear hK K
                refine InC.done (by kernel_rfl) ?_
                go_wp2_with fail
                go_meet
                case rel => exact ⟨TwoL.of_own (HBE.out) own4, C4⟩
              · go_simp
                have C3 : Below wr.heap.size wr ((wr.alloc (.cells #[] 45)).alloc (.cells #[.int .i64 1, .int .i64 (fa : Int), .int .i64 da, .int .i64 1, .int .i64 (fb : Int), .int .i64 db] 45)).drew := (by repeat (first | exact Below.refl _ _ | assumption | refine below_alloc ?_ _ | refine Below.setCell ?_ (by first | omega | (simp; done) | (simp; omega)) _ | refine Below.alloc ?_ (by first | omega | (simp; done) | (simp; omega)) _ | refine Below.drew ?_))
                refine hK _ _ C3 ?_
                clear hK K
                have O3 : ((wr.alloc (.cells #[] 45)).alloc (.cells #[.int .i64 1, .int .i64 (fa : Int), .int .i64 da, .int .i64 1, .int .i64 (fb : Int), .int .i64 db] 45)).drew.ownsRow wr.heap.size 45 3 (.slice (some ⟨wr.heap.size, 0, none⟩) 0 0) 0 [] := by
                  have h := ow_on (own_empty wr wr.heap.size 45 3 (Nat.le_refl _)) (show Below (wr.alloc (.cells #[] 45)).heap.size (wr.alloc (.cells #[] 45)) ((wr.alloc (.cells #[] 45)).alloc (.cells #[.int .i64 1, .int .i64 (fa : Int), .int .i64 da, .int .i64 1, .int .i64 (fb : Int), .int .i64 db] 45)) from (by repeat (first | exact Below.refl _ _ | assumption | refine below_alloc ?_ _ | refine Below.setCell ?_ (by first | omega | (simp; done) | (simp; omega)) _ | refine Below.alloc ?_ (by first | omega | (simp; done) | (simp; omega)) _ | refine Below.drew ?_)))
                  exact h
                have S3 : Six ((wr.alloc (.cells #[] 45)).alloc (.cells #[.int .i64 1, .int .i64 (fa : Int), .int .i64 da, .int .i64 1, .int .i64 (fb : Int), .int .i64 db] 45)).drew (wr.heap.size + 1) (1, (fa : Int), da) (1, (fb : Int), db) := by
                  have := Six.lay (wr.alloc (.cells #[] 45)) (1, (fa : Int), da) (1, (fb : Int), db)
                  rw [World.size_alloc] at this
                  exact this
                refine InC.next1 (i := 2) (by kernel_rfl) (InC.one rfl fun K hK => ?_)
                refine step_append_any rfl (.tmp 105) (.tmp 106) 26 rfl wr.heap.size 45 j0 _ 3 24 Try.underlying26 gi gz0 gz1 gz2 rfl (by decide) (.slice (some ⟨wr.heap.size, 0, none⟩) 0 0) 0 [] rfl O3 au E.length cu (trC E) rfl (trC_len E) (src_on evt C3) (trC_one E) (by unfold maxLen; omega) (by omega) C3.size ?_
                intro v2 W2 own2 gr2
                have C2 : Below wr.heap.size wr W2 := C3.trans ((ow_grown O3 gr2).below (Nat.le_refl _) C3.size)
                have S4 := own_two (b := wr.heap.size + 1) (by simp [Value.ownBlock]) gr2 S3
                refine hK _ _ C2 ?_
                clear hK K
                refine InC.next1 (i := 6) (by kernel_rfl) (InC.one rfl fun K hK => ?_)
                refine step_append_any rfl (.tmp 107) (.tmp 110) 26 rfl wr.heap.size 45 j0 _ 3 24 Try.underlying26 gi gz0 gz1 gz2 rfl (by decide) v2 (0 + E.length) ([] ++ trC E) rfl own2 (some ⟨wr.heap.size + 1, 0, none⟩) 2 2 (trC [(1, (fa : Int), da), (1, (fb : Int), db)]) rfl rfl (.inr ⟨_, rfl, S4.src⟩) (trC_one _) (by unfold maxLen; omega) (by omega) C2.size ?_
                intro v4 W4 own4 gr4
                have C4 : Below wr.heap.size wr W4 := C2.trans ((ow_grown own2 gr4).below (Nat.le_refl _) C2.size)
                refine hK _ _ C4 ?_
                clear hK K
                refine InC.next1 (i := 7) (by kernel_rfl) (InC.one rfl fun K hK => ?_)
                go_simp
                refine hK _ _ C4 ?_
                clear hK K
                refine InC.done (by kernel_rfl) ?_
                go_wp2_with fail
                go_meet
                case rel => exact ⟨TwoL.of_own (HBE.out) own4, C4⟩
            · go_simp
              refine hK _ _ C1' ?_
              clear hK K
              refine InC.next1 (i := 0) (by kernel_rfl) (InC.one rfl fun K hK => ?_)
              go_simp
              have C3 : Below wr.heap.size wr ((wr.alloc (.cells #[.int .i64 1, .int .i64 (fa : Int), .int .i64 da, .int .i64 1, .int .i64 (fb : Int), .int .i64 db] 45)).alloc (.cells #[] 45)).drew := (by repeat (first | exact Below.refl _ _ | assumption | refine below_alloc ?_ _ | refine Below.setCell ?_ (by first | omega | (simp; done) | (simp; omega)) _ | refine Below.alloc ?_ (by first | omega | (simp; done) | (simp; omega)) _ | refine Below.drew ?_))
              refine hK _ _ C3 ?_
              clear hK K
              have O3 : ((wr.alloc (.cells #[.int .i64 1, .int .i64 (fa : Int), .int .i64 da, .int .i64 1, .int .i64 (fb : Int), .int .i64 db] 45)).alloc (.cells #[] 45)).drew.ownsRow wr.heap.size 45 3 (.slice (some ⟨wr.heap.size + 1, 0, none⟩) 0 0) 0 [] := by
                have := own_empty (wr.alloc (.cells #[.int .i64 1, .int .i64 (fa : Int), .int .i64 da, .int .i64 1, .int .i64 (fb : Int), .int .i64 db] 45)) wr.heap.size 45 3 (by rw [World.size_alloc]; omega)
                rw [World.size_alloc] at this
                exact this
              have S3 : Six ((wr.alloc (.cells #[.int .i64 1, .int .i64 (fa : Int), .int .i64 da, .int .i64 1, .int .i64 (fb : Int), .int .i64 db] 45)).alloc (.cells #[] 45)).drew wr.heap.size (1, (fa : Int), da) (1, (fb : Int), db) := Blk.alloc S1 _
              refine InC.next1 (i := 2) (by kernel_rfl) (InC.one rfl fun K hK => ?_)
              refine step_append_any rfl (.tmp 105) (.tmp 106) 26 rfl wr.heap.size 45 j0 _ 3 24 Try.underlying26 gi gz0 gz1 gz2 rfl (by decide) (.slice (some ⟨wr.heap.size + 1, 0, none⟩) 0 0) 0 [] rfl O3 au E.length cu (trC E) rfl (trC_len E) (src_on evt C3) (trC_one E) (by unfold maxLen; omega) (by omega) C3.size ?_
              intro v2 W2 own2 gr2
              have C2 : Below wr.heap.size wr W2 := C3.trans ((ow_grown O3 gr2).below (Nat.le_refl _) C3.size)
              have S4 := own_two (b := wr.heap.size) (by simp [Value.ownBlock]) gr2 S3
              refine hK _ _ C2 ?_
              clear hK K
              refine InC.next1 (i := 6) (by kernel_rfl) (InC.one rfl fun K hK => ?_)
              refine step_append_any rfl (.tmp 107) (.tmp 110) 26 rfl wr.heap.size 45 j0 _ 3 24 Try.underlying26 gi gz0 gz1 gz2 rfl (by decide) v2 (0 + E.length) ([] ++ trC E) rfl own2 (some ⟨wr.heap.size, 0, none⟩) 2 2 (trC [(1, (fa : Int), da), (1, (fb : Int), db)]) rfl rfl (.inr ⟨_, rfl, S4.src⟩) (trC_one _) (by unfold maxLen; omega) (by omega) C2.size ?_
              intro v4 W4 own4 gr4
              have C4 : Below wr.heap.size wr W4 := C2.trans ((ow_grown own2 gr4).below (Nat.le_refl _) C2.size)
              refine hK _ _ C4 ?_
              clear hK K
              refine InC.next1 (i := 7) (by kernel_rfl) (InC.one rfl fun K hK => ?_)
              go_simp
              refine hK _ _ C4 ?_
              clear hK K
              refine InC.done (by kernel_rfl) ?_
              go_wp2_with fail
              go_meet
              case rel => exact ⟨TwoL.of_own (HBE.out) own4, C4⟩
          case rest =>
            obtain ⟨L1, B17⟩ := hcut
            rename World => V17
            have IU7 := IU.on B17
            have Y1 := X1.on B17
            have Y2 := X2.on B17
            have HBW : Hid (w.heap.size ≤ V17.heap.size) := IU7.bel.size
            clear IU X1 X2 B17
            go_upto_region 18 with fail
            go_cut [16] from 112 (fun q wc => TwoL w wc q E (1, (fb : Int), db) (1, (fa : Int), da) ∧ Below V17.heap.size V17 wc)
            case first =>
              have HBE : Hid (w.heap.size ≤ V17.heap.size) := HBW.out
              have e29 : E.length ≤ 29 := e1
              refine wp_region_any (by kernel_rfl) ?_
              refine InC.any (C := fun W => Below V17.heap.size V17 W) _ _ _ _ ?_
              have C0 : Below V17.heap.size V17 V17.drew := (Below.refl _ _).drew
              have C1 : Below V17.heap.size V17 (V17.alloc (.cells #[] 45)).drew := (by repeat (first | exact Below.refl _ _ | assumption | refine below_alloc ?_ _ | refine Below.setCell ?_ (by first | omega | (simp; done) | (simp; omega)) _ | refine Below.alloc ?_ (by first | omega | (simp; done) | (simp; omega)) _ | refine Below.drew ?_))
              have C1' : Below V17.heap.size V17 (V17.alloc (.cells #[.int .i64 1, .int .i64 (fb : Int), .int .i64 db, .int .i64 1, .int .i64 (fa : Int), .int .i64 da] 45)).drew := (by repeat (first | exact Below.refl _ _ | assumption | refine below_alloc ?_ _ | refine Below.setCell ?_ (by first | omega | (simp; done) | (simp; omega)) _ | refine Below.alloc ?_ (by first | omega | (simp; done) | (simp; omega)) _ | refine Below.drew ?_))
              have O1 : (V17.alloc (.cells #[] 45)).drew.ownsRow V17.heap.size 45 3 (.slice (some ⟨V17.heap.size, 0, none⟩) 0 0) 0 [] := own_empty V17 _ _ _ (Nat.le_refl _)
              have S1 : Six (V17.alloc (.cells #[.int .i64 1, .int .i64 (fb : Int), .int .i64 db, .int .i64 1, .int .i64 (fa : Int), .int .i64 da] 45)).drew V17.heap.size (1, (fb : Int), db) (1, (fa : Int), da) := Six.lay V17 (1, (fb : Int), db) (1, (fa : Int), da)
              have evt := IU7.evt
              refine InC.take (i := 1) (v := .slice au E.length cu) rfl (by kernel_rfl) (by kernel_rfl) (by kernel_rfl) (fun _ _ _ h => h) C0 (Or.inl ⟨by rfl, ?_⟩) ?_
              · intro W hW
                go_simp
              refine InC.take (i := 3) (v := .agg #[.int .i64 1, .int .i64 (fb : Int), .int .i64 db]) rfl (by kernel_rfl) (by kernel_rfl) (by kernel_rfl) (fun _ _ _ h => h) C0 (Or.inl ⟨by rfl, ?_⟩) ?_
              · intro W hW
                obtain ⟨k0, k1, k2⟩ := (Y2.on hW).cells
                go_simp
              refine InC.take (i := 4) (v := .agg #[.int .i64 1, .int .i64 (fa : Int), .int .i64 da]) rfl (by kernel_rfl) (by kernel_rfl) (by kernel_rfl) (fun _ _ _ h => h) C0 (Or.inl ⟨by rfl, ?_⟩) ?_
              · intro W hW
                obtain ⟨k0, k1, k2⟩ := (Y1.on hW).cells
                go_simp
              refine InC.next2 (i := 0) (j := 5) (by kernel_rfl) (InC.one rfl fun K hK => ?_) (InC.one rfl fun K hK => ?_)
              · go_simp
                refine hK _ _ C1 ?_
                clear hK K
                refine InC.next2 (i := 2) (j := 5) (by kernel_rfl) (InC.one rfl fun K hK => ?_) (InC.one rfl fun K hK => ?_)
                · refine step_append_any rfl (.tmp 112) (.tmp 113) 26 rfl V17.heap.size 45 j0 _ 3 24 Try.underlying26 gi gz0 gz1 gz2 rfl (by decide) (.slice (some ⟨V17.heap.size, 0, none⟩) 0 0) 0 [] rfl O1 au E.length cu (trC E) rfl (trC_len E) (src_on evt C1) (trC_one E) (by unfold maxLen; omega) (by omega) C1.size ?_
                  intro v2 W2 own2 gr2
                  have C2 : Below V17.heap.size V17 W2 := C1.trans ((ow_grown O1 gr2).below (Nat.le_refl _) C1.size)
                  refine hK _ _ C2 ?_
                  clear hK K
                  refine InC.next1 (i := 5) (by kernel_rfl) (InC.one rfl fun K hK => ?_)
                  go_simp
                  have C3 : Below V17.heap.size V17 (W2.alloc (.cells #[.int .i64 1, .int .i64 (fb : Int), .int .i64 db, .int .i64 1, .int .i64 (fa : Int), .int .i64 da] 45)) := below_alloc C2 _
                  refine hK _ _ C3 ?_
                  clear hK K
                  have own3 := ow_on own2 (show Below W2.heap.size W2 (W2.alloc (.cells #[.int .i64 1, .int .i64 (fb : Int), .int .i64 db, .int .i64 1, .int .i64 (fa : Int), .int .i64 da] 45)) from (by repeat (first | exact Below.refl _ _ | assumption | refine below_alloc ?_ _ | refine Below.setCell ?_ (by first | omega | (simp; done) | (simp; omega)) _ | refine Below.alloc ?_ (by first | omega | (simp; done) | (simp; omega)) _ | refine Below.drew ?_)))
                  have S3 : Six (W2.alloc (.cells #[.int .i64 1, .int .i64 (fb : Int), .int .i64 db, .int .i64 1, .int .i64 (fa : Int), .int .i64 da] 45)) W2.heap.size (1, (fb : Int), db) (1, (fa : Int), da) := Six.lay W2 (1, (fb : Int), db) (1, (fa : Int), da)
                  refine InC.next1 (i := 6) (by kernel_rfl) (InC.one rfl fun K hK => ?_)
                  refine step_append_any rfl (.tmp 114) (.tmp 117) 26 rfl V17.heap.size 45 j0 _ 3 24 Try.underlying26 gi gz0 gz1 gz2 rfl (by decide) v2 (0 + E.length) ([] ++ trC E) rfl own3 (some ⟨W2.heap.size, 0, none⟩) 2 2 (trC [(1, (fb : Int), db), (1, (fa : Int), da)]) rfl rfl (.inr ⟨_, rfl, S3.src⟩) (trC_one _) (by unfold maxLen; omega) (by omega) C3.size ?_
                  intro v4 W4 own4 gr4
                  have C4 : Below V17.heap.size V17 W4 := C3.trans ((ow_grown own3 gr4).below (Nat.le_refl _) C3.size)
                  refine hK _ _ C4 ?_
                  clear hK K
                  refine InC.next1 (i := 7) (by kernel_rfl) (InC.one rfl fun K hK => ?_)
                  go_simp
                  refine hK _ _ C4 ?_
                  clear hK K
                  refine InC.done (by kernel_rfl) ?_
                  go_wp2_with fail
                  go_meet
                  case rel => exact ⟨TwoL.of_own (HBE.out) own4, C4⟩
                · go_simp
                  have C3 : Below V17.heap.size V17 ((V17.alloc (.cells #[] 45)).alloc (.cells #[.int .i64 1, .int .i64 (fb : Int), .int .i64 db, .int .i64 1, .int .i64 (fa : Int), .int .i64 da] 45)).drew := (by repeat (first | exact Below.refl _ _ | assumption | refine below_alloc ?_ _ | refine Below.setCell ?_ (by first | omega | (simp; done) | (simp; omega)) _ | refine Below.alloc ?_ (by first | omega | (simp; done) | (simp; omega)) _ | refine Below.drew ?_))
                  refine hK _ _ C3 ?_
                  clear hK K
                  have O3 : ((V17.alloc (.cells #[] 45)).alloc (.cells #[.int .i64 1, .int .i64 (fb : Int), .int .i64 db, .int .i64 1, .int .i64 (fa : Int), .int .i64 da] 45)).drew.ownsRow V17.heap.size 45 3 (.slice (some ⟨V17.heap.size, 0, none⟩) 0 0) 0 [] := by
                    have h := ow_on (own_empty V17 V17.heap.size 45 3 (Nat.le_refl _)) (show Below (V17.alloc (.cells #[] 45)).heap.size (V17.alloc (.cells #[] 45)) ((V17.alloc (.cells #[] 45)).alloc (.cells #[.int .i64 1, .int .i64 (fb : Int), .int .i64 db, .int .i64 1, .int .i64 (fa : Int), .int .i64 da] 45)) from (by repeat (first | exact Below.refl _ _ | assumption | refine below_alloc ?_ _ | refine Below.setCell ?_ (by first | omega | (simp; done) | (simp; omega)) _ | refine Below.alloc ?_ (by first | omega | (simp; done) | (simp; omega)) _ | refine Below.drew ?_)))
                    exact h
                  have S3 : Six ((V17.alloc (.cells #[] 45)).alloc (.cells #[.int .i64 1, .int .i64 (fb : Int), .int .i64 db, .int .i64 1, .int .i64 (fa : Int), .int .i64 da] 45)).drew (V17.heap.size + 1) (1, (fb : Int), db) (1, (fa : Int), da) := by
                    have := Six.lay (V17.alloc (.cells #[] 45)) (1, (fb : Int), db) (1, (fa : Int), da)
                    rw [World.size_alloc] at this
                    exact this
                  refine InC.next1 (i := 2) (by kernel_rfl) (InC.one rfl fun K hK => ?_)
                  refine step_append_any rfl (.tmp 112) (.tmp 113) 26 rfl V17.heap.size 45 j0 _ 3 24 Try.underlying26 gi gz0 gz1 gz2 rfl (by decide) (.slice (some ⟨V17.heap.size, 0, none⟩) 0 0) 0 [] rfl O3 au E.length cu (trC E) rfl (trC_len E) (src_on evt C3) (trC_one E) (by unfold maxLen; omega) (by omega) C3.size ?_
                  intro v2 W2 own2 gr2
                  have C2 : Below V17.heap.size V17 W2 := C3.trans ((ow_grown O3 gr2).below (Nat.le_refl _) C3.size)
                  have S4 := own_two (b := V17.heap.size + 1) (by simp [Value.ownBlock]) gr2 S3
                  refine hK _ _ C2 ?_
                  clear hK K
                  refine InC.next1 (i := 6) (by kernel_rfl) (InC.one rfl fun K hK => ?_)
                  refine step_append_any rfl (.tmp 114) (.tmp 117) 26 rfl V17.heap.size 45 j0 _ 3 24 Try.underlying26 gi gz0 gz1 gz2 rfl (by decide) v2 (0 + E.length) ([] ++ trC E) rfl own2 (some ⟨V17.heap.size + 1, 0, none⟩) 2 2 (trC [(1, (fb : Int), db), (1, (fa : Int), da)]) rfl rfl (.inr ⟨_, rfl, S4.src⟩) (trC_one _) (by unfold maxLen; omega) (by omega) C2.size ?_
                  intro v4 W4 own4 gr4
                  have C4 : Below V17.heap.size V17 W4 := C2.trans ((ow_grown own2 gr4).below (Nat.le_refl _) C2.size)
                  refine hK _ _ C4 ?_
                  clear hK K
                  refine InC.next1 (i := 7) (by kernel_rfl) (InC.one rfl fun K hK => ?_)
                  go_simp
                  refine hK _ _ C4 ?_
                  clear hK K
                  refine InC.done (by kernel_rfl) ?_
                  go_wp2_with fail
                  go_meet
                  case rel => exact ⟨TwoL.of_own (HBE.out) own4, C4⟩
              · go_simp
                refine hK _ _ C1' ?_
                clear hK K
                refine InC.next1 (i := 0) (by kernel_rfl) (InC.one rfl fun K hK => ?_)
                go_simp
                have C3 : Below V17.heap.size V17 ((V17.alloc (.cells #[.int .i64 1, .int .i64 (fb : Int), .int .i64 db, .int .i64 1, .int .i64 (fa : Int), .int .i64 da] 45)).alloc (.cells #[] 45)).drew := (by repeat (first | exact Below.refl _ _ | assumption | refine below_alloc ?_ _ | refine Below.setCell ?_ (by first | omega | (simp; done) | (simp; omega)) _ | refine Below.alloc ?_ (by first | omega | (simp; done) | (simp; omega)) _ | refine Below.drew ?_))
                refine hK _ _ C3 ?_
                clear hK K
                have O3 : ((V17.alloc (.cells #[.int .i64 1, .int .i64 (fb : Int), .int .i64 db, .int .i64 1, .int .i64 (fa : Int), .int .i64 da] 45)).alloc (.cells #[] 45)).drew.ownsRow V17.heap.size 45 3 (.slice (some ⟨V17.heap.size + 1, 0, none⟩) 0 0) 0 [] := by
                  have := own_empty (V17.alloc (.cells #[.int .i64 1, .int .i64 (fb : Int), .int .i64 db, .int .i64 1, .int .i64 (fa : Int), .int .i64 da] 45)) V17.heap.size 45 3 (by rw [World.size_alloc]; omega)
                  rw [World.size_alloc] at this
                  exact this
                have S3 : Six ((V17.alloc (.cells #[.int .i64 1, .int .i64 (fb : Int), .int .i64 db, .int .i64 1, .int .i64 (fa : Int), .int .i64 da] 45)).alloc (.cells #[] 45)).drew V17.heap.size (1, (fb : Int), db) (1, (fa : Int), da) := Blk.alloc S1 _
                refine InC.next1 (i := 2) (by kernel_rfl) (InC.one rfl fun K hK => ?_)
                refine step_append_any rfl (.tmp 112) (.tmp 113) 26 rfl V17.heap.size 45 j0 _ 3 24 Try.underlying26 gi gz0 gz1 gz2 rfl (by decide) (.slice (some ⟨V17.heap.size + 1, 0, none⟩) 0 0) 0 [] rfl O3 au E.length cu (trC E) rfl (trC_len E) (src_on evt C3) (trC_one E) (by unfold maxLen; omega) (by omega) C3.size ?_
                intro v2 W2 own2 gr2
                have C2 : Below V17.heap.size V17 W2 := C3.trans ((ow_grown O3 gr2).below (Nat.le_refl _) C3.size)
                have S4 := own_two (b := V17.heap.size) (by simp [Value.ownBlock]) gr2 S3
                refine hK _ _ C2 ?_
                clear hK K
                refine InC.next1 (i := 6) (by kernel_rfl) (InC.one rfl fun K hK => ?_)
                refine step_append_any rfl (.tmp 114) (.tmp 117) 26 rfl V17.heap.size 45 j0 _ 3 24 Try.underlying26 gi gz0 gz1 gz2 rfl (by decide) v2 (0 + E.length) ([] ++ trC E) rfl own2 (some ⟨V17.heap.size, 0, none⟩) 2 2 (trC [(1, (fb : Int), db), (1, (fa : Int), da)]) rfl rfl (.inr ⟨_, rfl, S4.src⟩) (trC_one _) (by unfold maxLen; omega) (by omega) C2.size ?_
                intro v4 W4 own4 gr4
                have C4 : Below V17.heap.size V17 W4 := C2.trans ((ow_grown own2 gr4).below (Nat.le_refl _) C2.size)
                refine hK _ _ C4 ?_
                clear hK K
                refine InC.next1 (i := 7) (by kernel_rfl) (InC.one rfl fun K hK => ?_)
                go_simp
                refine hK _ _ C4 ?_
                clear hK K
                refine InC.done (by kernel_rfl) ?_
                go_wp2_with fail
                go_meet
                case rel => exact ⟨TwoL.of_own (HBE.out) own4, C4⟩
            case rest =>
              obtain ⟨L2, B18⟩ := hcut
              rename World => V18
              have I8 := IU7.on B18
              have L1 : TwoL w V18 _ E (1, (fa : Int), da) (1, (fb : Int), db) := (SlF.on L1 B18).wide (Nat.le_refl _) B18.size
              clear IU7 Y1 Y2 B18 HBW
              have SW := swap_run (S : Int) n F T E fa fb da db EA.out EB.out
              have eM : E.length + 2 = E.length + 1 + 1 := rfl
              unfold TwoL at L1 L2
              rw [eM] at L1 L2 SW
              obtain ⟨M, hM⟩ : ∃ M, E.length + 1 = M := ⟨_, rfl⟩
              rw [hM] at L1 L2 SW
              have hM1 : M ≤ 30 := by omega
              obtain ⟨P1, eP1⟩ : ∃ P, trP (E ++ [(1, (fa : Int), da), (1, (fb : Int), db)]) = P := ⟨_, rfl⟩
              obtain ⟨P2, eP2⟩ : ∃ P, trP (E ++ [(1, (fb : Int), db), (1, (fa : Int), da)]) = P := ⟨_, rfl⟩
              rw [eP1] at L1 SW
              rw [eP2] at L2 SW
              have HSW : Hid _ := SW
              clear SW eP1 eP2 EA EB eM hM e1
              obtain ⟨a15, c15, e15, _⟩ := id L1
              obtain ⟨a16, c16, e16, _⟩ := id L2
              subst e15
              subst e16
              obtain ⟨y0, y1⟩ := I8.lay.cells
              have ly := I8.lay.lt
              have kr1 := fun W hW => implRun_ok (S : Int) g n w.heap.size V18.heap.size (M + 1) S F T P1 (.slice a15 (M + 1) c15) W (CRow.on I8.row hW) (L1.on hW) OK.out rfl (by omega)
              have kr2 := fun W hW => implRun_ok (S : Int) g n w.heap.size V18.heap.size (M + 1) S F T P2 (.slice a16 (M + 1) c16) W (CRow.on I8.row hW) (L2.on hW) OK.out rfl (by omega)
              have kr3 := fun W hW => specRun_ok (S : Int) g n w.heap.size V18.heap.size (M + 1) S F T P1 (.slice a15 (M + 1) c15) W (CRow.on I8.row hW) (L1.on hW) OK.out rfl (by omega)
              have KR2 : Hid _ := kr2
              have KR3 : Hid _ := kr3
              have LAY : Hid _ := I8.lay
              have BEL : Hid _ := I8.bel
              clear kr2 kr3 L1 L2 I8
              go_wp2_with fail
              refine (kr1 _ (Below.refl _ _)).mono ?_
              rintro _ w19 ⟨r1, rfl, D1, b19⟩
              clear kr1 y0 y1 ly
              obtain ⟨y0, y1⟩ := (Box2.on LAY.out b19).cells
              have ly := (Box2.on LAY.out b19).lt
              obtain ⟨A1, A2, K1, ⟨ar, cr, er, _⟩, _⟩ := id D1
              subst er
              go_wp2_with fail
              refine (KR2.out _ b19).mono ?_
              rintro _ w20 ⟨r2, rfl, D2, b20⟩
              have D1 := D1.on b20
              have b20 := below_on b19 b20
              clear y0 y1 ly b19 KR2
              obtain ⟨y0, y1⟩ := (Box2.on LAY.out b20).cells
              have ly := (Box2.on LAY.out b20).lt
              obtain ⟨A1', A2', K2, ⟨aS, cS, es, _⟩, _⟩ := id D2
              subst es
              go_wp2_with fail
              refine (KR3.out _ b20).mono ?_
              rintro _ w21 ⟨r3, rfl, D3, b21⟩
              have D1 := D1.on b21
              have D2 := D2.on b21
              have b21 := below_on b20 b21
              clear y0 y1 ly b20 KR3
              go_wp2_with fail
              refine (wDone_same _ _ _ _ (M + 1) S n _ _ _ _ _ _ w21 (by omega) (by omega) (by omega) D1 D3).mono ?_
              rintro _ w22 ⟨rfl, b22⟩
              have D1 := D1.on b22
              have D2 := D2.on b22
              have b22 := below_on b21 b22
              clear D3 b21
              go_upto_region 24 with fail
              have FIN : Hid (Below w.heap.size w w22) := below_on BEL.out b22
              clear b22 LAY BEL
              cases b
              · have ha := APT.out rfl
                have SW := HSW.out ha
                obtain ⟨B1, B2, J1, ⟨_, _, e1, h0⟩, _, _, hh⟩ := id D1
                cases e1
                obtain ⟨B1', B2', J2, ⟨_, _, e1, h0'⟩, _, _, hh'⟩ := id D2
                cases e1
                rcases h0 with h0 | ⟨gr, mm, f, rfl, _, _, k2, k3, k4⟩
                · omega
                rcases h0' with h0' | ⟨gs, mm', f', rfl, _, _, k2', k3', k4'⟩
                · omega
                obtain ⟨c0, c1, c2', c3⟩ := four k3 k2 (Nat.lt_succ_self M) k4
                obtain ⟨d0, d1, d2, d3⟩ := four k3' k2' (Nat.lt_succ_self M) k4'
                obtain ⟨_, s1', s2'⟩ := hh M (Nat.lt_succ_self M)
                obtain ⟨_, t1, t2⟩ := hh' M (Nat.lt_succ_self M)
                have st : StF w22 _ _ (.agg #[.bool true, B1 M, B2 M]) true S n (runX (S : Int) n F T P1 (M + 1)) (runD (S : Int) n F T P1 (M + 1)) := ⟨_, _, rfl, s1', s2'⟩
                have st' : StF w22 _ _ (.agg #[.bool true, B1' M, B2' M]) true S n (runX (S : Int) n F T P2 (M + 1)) (runD (S : Int) n F T P2 (M + 1)) := ⟨_, _, rfl, t1, t2⟩
                have ce : ∀ dd os, _ := fun dd os => Calls.regrown_of (wState_same _ _ _ _ S n _ _ true _ _ _ _ (Sort.grow (redrawn w22 dd) os) (by omega) (by omega) (st.on (below_regrown w22 dd os)) (st'.on (below_regrown w22 dd os)) (fun i _ => (SW.1 i).symm) (fun i _ => by rw [SW.2]))
                have kc1 := cell_regrown c1
                have kc2 := cell_regrown c2'
                have kc3 := cell_regrown c3
                have kd1 := cell_regrown d1
                have kd2 := cell_regrown d2
                have kd3 := cell_regrown d3
                clear k3 k3' k4 k4' hh hh' s1' s2' t1 t2 st st' c0 c1 c2' c3 d0 d1 d2 d3 D1 D2 HSW SW
                refine wp_region_quiet_below (by kernel_rfl) (by kernel_rfl) ?_
                repeat (go_big_quiet_step (first | with_reducible exact ce _ _))
                refine wpQuiet_nil ?_
                intro _ hw'
                obtain ⟨⟨dq, osq⟩, hw''⟩ := hw'
                have hBq := below_regrown w22 dq osq
                subst hw''
                clear kc1 kc2 kc3 kd1 kd2 kd3 ce
                generalize Sort.grow (redrawn w22 dq) osq = wq at *
                go_wp2
                go_ret
                exact ⟨rfl, below_on FIN.out hBq⟩
              · clear D1 D2
                refine wp_region_quiet_below (by kernel_rfl) (by kernel_rfl) ?_
                repeat (go_big_quiet_step (fail))
                refine wpQuiet_nil ?_
                intro _ hw'
                obtain ⟨⟨dq, osq⟩, hw''⟩ := hw'
                have hBq := below_regrown w22 dq osq
                subst hw''
                generalize Sort.grow (redrawn w22 dq) osq = wq at *
                go_wp2
                go_ret
                exact ⟨rfl, below_on FIN.out hBq⟩

end Go.Proofs.Ytlpopfhaephfaaa

namespace Go.Proofs.Ytlpopfhaephfaaa
open Go.RowKit

theorem ev_false : EvC false := events_false
theorem drawn_false (m cap : Nat) (ao : Option Addr) (C : Nat → Int) (w : World) (hc : Cod w w.heap.size ao m C) (hm : m ≤ maxLen) :
    Calls Try.prog 11 #[.slice ao m cap, .bool false] w fun e w' => ∃ g u, e = .returned (.tuple #[.agg #[.int .i64 (drS C m : Int), .slice (gA g) (drL C m).length (gC g)], u]) ∧ DrP w w' C m false g u := drawn_of ev_false m cap ao C w hc hm

end Go.Proofs.Ytlpopfhaephfaaa

namespace Go.Proofs.Ytlpopfhaephfaaa
open Go.RowKit

set_option maxRecDepth 100000 in
set_option maxHeartbeats 8000000 in
theorem swap_none (hev : EvC false) (m1 c1 m2 c2 : Nat) (a1 a2 : Option Addr) (C1 C2 : Nat → Int) (w : World) (h1 : Cod w w.heap.size a1 m1 C1) (h2 : Cod w w.heap.size a2 m2 C2) (hm1 : m1 ≤ 1048576) (hm2 : m2 ≤ 1048576) (hn : (drL C1 m1).length = 0) :
    Calls Try.prog 5 #[.slice a1 m1 c1, .slice a2 m2 c2] w fun e w' => e = .returned (.bool true) ∧ Below w.heap.size w w' := by
  have i1 : ¬ (1048576 : Int) < m1 := by omega
  have i2 : ¬ (1048576 : Int) < m2 := by omega
  have ok := dr_ok C1 m1
  obtain ⟨e1, e2⟩ := drE_facts C1 m1 false
  have kd := drawn_of hev m1 c1 a1 C1 w h1 (by unfold maxLen; omega)
  unfold DrP at kd
  obtain ⟨S, eS⟩ : ∃ S, drS C1 m1 = S := ⟨_, rfl⟩
  obtain ⟨F, eF⟩ : ∃ F, fstF (drL C1 m1) = F := ⟨_, rfl⟩
  obtain ⟨T, eT⟩ : ∃ T, sndF (drL C1 m1) = T := ⟨_, rfl⟩
  obtain ⟨E, eE⟩ : ∃ E, drE C1 m1 false = E := ⟨_, rfl⟩
  rw [eS, hn, eF, eT] at ok
  rw [eE] at e1
  rw [eS, hn, eF, eT, eE] at kd
  clear eS eF eT eE e2 hn
  go_enter Try.func5, Try.ntmps5
  go_wp2_with fail
  refine kd.mono ?_
  rintro e w1 ⟨g, u, rfl, R1, E1, B1, _⟩
  obtain ⟨V, eV⟩ : ∃ V, w1.alloc (.cells #[.int .i64 (S : Int), .slice (gA g) 0 (gC g)] 25) = V := ⟨_, rfl⟩
  have IV : FsI w V w1.heap.size S g 0 F T w1.heap.size u E a2 m2 C2 := by
    rw [← eV]
    exact ⟨Box2.lay _ _ _ _, R1.alloc _, E1.alloc _, below_alloc B1 _, h2.below (below_alloc B1 _)⟩
  obtain ⟨y0, y1⟩ := IV.lay.cells
  have ly := IV.lay.lt
  obtain ⟨lb, elb⟩ : ∃ lb, w1.heap.size = lb := ⟨_, rfl⟩
  rw [elb] at IV y0 y1 ly
  obtain ⟨au, cu, rfl, _⟩ := id IV.evt
  have kr := implRun_ok (S : Int) g 0 w.heap.size lb E.length S F T (trP E) _ V IV.row IV.evt ok rfl (by omega)
  have BV : Hid (Below w.heap.size w V) := IV.bel
  clear R1 E1 B1 h1 h2 IV kd
  go_wp2_with fail
  refine kr.mono ?_
  rintro _ w2 ⟨r, rfl, D, b2⟩
  obtain ⟨_, _, _, ⟨ar, cr, rfl, _⟩, _⟩ := D
  go_wp2
  go_ret
  exact ⟨rfl, below_on BV.out b2⟩

set_option maxRecDepth 100000 in
theorem swap_great (m1 c1 m2 c2 : Nat) (a1 a2 : Option Addr) (w : World) (h : 1048576 < m1 ∨ 1048576 < m2) :
    Calls Try.prog 5 #[.slice a1 m1 c1, .slice a2 m2 c2] w fun e w' => e = .returned (.bool true) ∧ Below w.heap.size w w' := by
  by_cases h1 : 1048576 < m1
  · have i1 : (1048576 : Int) < m1 := by omega
    go_enter Try.func5, Try.ntmps5
    go_wp2
    go_ret
    exact ⟨rfl, Below.refl _ _⟩
  · have i1 : ¬ (1048576 : Int) < m1 := by omega
    have i2 : (1048576 : Int) < m2 := by omega
    go_enter Try.func5, Try.ntmps5
    go_wp2
    go_ret
    exact ⟨rfl, Below.refl _ _⟩

theorem swap_all (m1 c1 m2 c2 : Nat) (a1 a2 : Option Addr) (C1 C2 : Nat → Int) (w : World) (h1 : Cod w w.heap.size a1 m1 C1) (h2 : Cod w w.heap.size a2 m2 C2) :
    Calls Try.prog 5 #[.slice a1 m1 c1, .slice a2 m2 c2] w fun e w' => e = .returned (.bool true) ∧ Below w.heap.size w w' := by
  by_cases h : 1048576 < m1 ∨ 1048576 < m2
  · exact swap_great m1 c1 m2 c2 a1 a2 w h
  · rcases Nat.eq_zero_or_pos (drL C1 m1).length with hn | hn
    · exact swap_none ev_false m1 c1 m2 c2 a1 a2 C1 C2 w h1 h2 (by omega) (by omega) hn
    · exact swap_some ev_false m1 c1 m2 c2 a1 a2 C1 C2 w h1 h2 (by omega) (by omega) hn

end Go.Proofs.Ytlpopfhaephfaaa

namespace Go.Proofs.Ytlpopfhaephfaaa
open Go.ChangeShapes Go.WideShapes Go.ChangeAt Go.RowKit Go.Joins

theorem Try.ownD : ownKnob Try.prog.godebug = none := by kernel_rfl
theorem Try.laidD : laidOutB Try.prog = true := by kernel_rfl
theorem Try.cellsU8 : Try.prog.cellsOf 5 = 1 := by kernel_rfl

theorem u8_wf {n : Int} (h : (Lit.int .u8 n).wf = true) : 0 ≤ n ∧ n < 256 := by
  unfold Lit.wf at h
  simp only [Bool.and_eq_true, decide_eq_true_eq] at h
  have h1 : IntKind.u8.min = 0 := by decide
  have h2 : IntKind.u8.max = 255 := by decide
  rw [h1, h2] at h
  omega

theorem cod_of_trod {H : Type} {enc : TypeId × Value → H} {W : World} {base : Nat} {spare : Nat → Bool} {held : Bool} {fuel : Nat} {c : Value} {x : DataW H × List MemPlace} (h : DataW.trod enc Try.prog W base spare held fuel 22 [c] = some x) :
    ∃ (ao : Option Addr) (n cap : Nat) (C : Nat → Int), c = .slice ao n cap ∧ n ≤ maxLen ∧ Cod W W.heap.size ao n C := by
  rcases open_ints Try.underlying22 Try.underlying5 Try.cellsU8 h with ⟨hc, _⟩ | ⟨a, len, cap, zs, hc, _, hl, hm, hz, _, hcell, hwf⟩
  · simp only [List.cons.injEq, and_true] at hc
    exact ⟨none, 0, 0, fun _ => 0, hc, Nat.zero_le _, .inl rfl⟩
  · simp only [List.cons.injEq, and_true] at hc
    refine ⟨some a, len, cap, fun i => zs.getD i 0, hc, Nat.le_trans hl hm, ?_⟩
    have hlz : len ≤ zs.length := by rw [hz]; split <;> omega
    rcases Nat.eq_zero_or_pos len with h0 | h0
    · exact .inl h0
    · right
      obtain ⟨b, off, spot⟩ := a
      have hs : spot = none := by simpa [Addr.add] using World.cell?_spot (hcell 0 (by omega))
      subst hs
      refine ⟨b, off, rfl, ?_, fun i hi => ⟨?_, ?_⟩⟩
      · have := World.block_lt_of_cell? W _ (hcell 0 (by omega))
        simpa [Addr.add] using this
      · have := hcell i (by omega)
        have e : (⟨b, off, none⟩ : Addr).add i = ⟨b, off + i, none⟩ := by simp [Addr.add]
        rw [e] at this
        exact this
      · have hi' : i < zs.length := by omega
        have e : zs.getD i 0 = zs[i] := by rw [List.getD_eq_getElem?_getD, List.getElem?_eq_getElem hi']; rfl
        show 0 ≤ zs.getD i 0 ∧ zs.getD i 0 < 256
        rw [e]
        exact u8_wf (hwf _ (List.getElem_mem hi'))

theorem cod_of {H : Type} {enc : TypeId × Value → H} {W : World} {base : Nat} {spare : Nat → Bool} {held : Bool} {ao : Option Addr} {n cap : Nat} {d : DataW H} {p : List MemPlace} (h : DataW.Trod enc Try.prog W base spare held 22 (.slice ao n cap) d p) :
    n ≤ maxLen ∧ ∃ C, Cod W W.heap.size ao n C := by
  obtain ⟨fuel, hf⟩ := h
  obtain ⟨ao', n', cap', C, e, hm, hc⟩ := cod_of_trod (c := .slice ao n cap) hf
  simp only [Value.slice.injEq] at e
  obtain ⟨rfl, rfl, rfl⟩ := e
  exact ⟨hm, C, hc⟩

end Go.Proofs.Ytlpopfhaephfaaa

namespace Go.Proofs.Ytlpopfhaephfaaa
open Go.ChangeShapes Go.WideShapes Go.ChangeAt Go.RowKit Go.Joins

set_option maxRecDepth 100000 in
theorem fnSwap_lifted (os : Os) (started : os.Started) (H : Type) (enc : TypeId × Value → H) :
    ReturnsInHanded {} Try.checked os 5 .any (Rows.fnSwapSpec.pre6 enc Try.prog Try.f5 Rows.fnSwapRow.domain false) (Rows.fnSwapSpec.post enc Try.prog Try.f5 false true false false) := by
  refine returnsInHanded_of_change (C := Try.checked) Try.ownD started (by kernel_rfl) Try.func5
    (ChangeSpec.witness6 (enc := enc) (C := Try.checked) false ⟨#[], #[.slice none 0 0, .slice none 0 0], []⟩ 8 (by kernel_rfl) (by kernel_rfl) (by kernel_rfl) (by kernel_rfl)) ?_
  intro W base args ds gs before hval0 hW hcnd _
  have hval : ∀ (j : Nat) t v, Try.f5.params[j]? = some t → args[j]? = some v → Value.okWide Try.prog W .any base t v := hval0
  have hW' := hW
  obtain ⟨p, q, hA0, hV, rfl, hfz, hnd⟩ := hW
  have hA : DataW.TrodAll enc Try.prog W 0 (fun _ => true) true Try.f5.params.toList args.toList ds p := hA0
  rw [Try.params5] at hA hval
  obtain ⟨v0, vs0, d0, ds0, p0, q0, hargs, rfl, rfl, h0, r0⟩ := trodAll_cons hA
  obtain ⟨v1, vs1, d1, ds1, p1, q1, rfl, rfl, rfl, h1, r1⟩ := trodAll_cons r0
  obtain ⟨rfl, rfl, rfl⟩ := trodAll_nil r1
  obtain rfl : args = #[v0, v1] := by rw [← Array.toList_inj]; exact hargs
  obtain ⟨rfl, rfl⟩ := trodVars_none hV
  have hl0 : ∀ x ∈ p0, x.block < W.heap.size := fun x hx => by simpa using hW'.lt x (by simp [hx])
  have hl1 : ∀ x ∈ p1, x.block < W.heap.size := fun x hx => by simpa using hW'.lt x (by simp [hx])
  obtain ⟨a1, m1, c1, rfl⟩ := okWide_slice Try.underlying22 (hval 0 22 v0 rfl rfl)
  obtain ⟨a2, m2, c2, rfl⟩ := okWide_slice Try.underlying22 (hval 1 22 v1 rfl rfl)
  obtain ⟨_, C1, hc1⟩ := cod_of h0
  obtain ⟨_, C2, hc2⟩ := cod_of h1
  clear hA0 hval0
  simp only [List.append_nil] at hW'
  refine (swap_all m1 c1 m2 c2 a1 a2 C1 C2 W hc1 hc2).mono fun e W' ⟨he, hb⟩ => ?_
  subst he
  refine ⟨_, rfl, _, _, _, [], p0 ++ (p1 ++ []), [], hW', ?_, ?_, rfl, hb.frame _, fun h => by cases h⟩
  · exact trodAll_mk1 (shut_bool Try.underlying4 true)
  · exact trodAll_cons_mk (Below.trod Try.laidD (by kernel_rfl) (of_decide_eq_true (by kernel_rfl)) h0 hb hl0) (trodAll_cons_mk (Below.trod Try.laidD (by kernel_rfl) (of_decide_eq_true (by kernel_rfl)) h1 hb hl1) trodAll_mk0)

theorem fnSwap_holds : Rows.FnSwapSaid :=
  OpenClaim.holds_of_wide 5 Try.f5 rfl rfl rfl rfl rfl rfl rfl ⟨rfl, rfl, rfl, rfl, rfl⟩ rfl rfl rfl rfl rfl (by kernel_rfl) Try.func5 (by kernel_rfl)
    (of_decide_eq_true (by kernel_rfl)) (by unfold Func.isWrapper; first | (rw [if_pos (by decide +kernel)]; kernel_rfl) | (rw [if_neg (by decide +kernel)]; exact ⟨rfl, rfl⟩))
    (fun os started H enc _ => fnSwap_lifted os started H enc)

#print axioms fnSwap_holds

end Go.Proofs.Ytlpopfhaephfaaa
