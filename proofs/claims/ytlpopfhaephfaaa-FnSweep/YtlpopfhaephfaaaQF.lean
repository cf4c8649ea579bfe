import Derived.Test.YtlpopfhaephfaaaRN2
import Derived.Test.YtlpopfhaephfaaaOW
import Derived.Test.YtlpopfhaephfaaaQC
import Derived.BigQuiet
import Derived.Lib.QuietBelow
import Derived.Deep.RegionWith
import Derived.Deep.QuietTactic
import Derived.Test.YtlpopfhaephfaaaQR
import Derived.Test.YtlpopfhaephfaaaRC
import Derived.Test.YtlpopfhaephfaaaGrp
import Derived.Deep.RegionLaw
namespace Go.Proofs.Ytlpopfhaephfaaa
open Go.RowKit

theorem runS_congr (S : Int) (n : Nat) (F T : Nat → Int) (P P' : Nat → Nat → Int) (k : Nat) (h : ∀ j, j < k → ∀ i, i < 3 → P j i = P' j i) : runS S n F T P k = runS S n F T P' k := by
  induction k with
  | zero => rfl
  | succ k ih =>
    have := ih (fun j hj i hi => h j (by omega) i hi)
    simp only [runS]
    rw [this, h k (by omega) 0 (by omega), h k (by omega) 1 (by omega), h k (by omega) 2 (by omega)]

theorem cntSide_at (X : Nat → Sec) (s way : Int) (i : Nat) : cntSide X s way i = if s = (i : Int) then cnt (X i) way else X i := by
  unfold cntSide
  split
  · rw [if_neg (by omega)]
  · unfold cntAt
    by_cases h : s = (i : Int)
    · subst h; simp
    · rw [if_neg (by omega), if_neg h]

/-- what a pass does to one section -/
def pwS (fr tt : Int) (i : Nat) (x : Sec) : Sec := if tt = (i : Int) then cnt (if fr = (i : Int) then cnt x (-1) else x) 1 else if fr = (i : Int) then cnt x (-1) else x
def tlS (b : Bool) (x : Sec) : Sec := ⟨toldZ b x, x.count, x.lost, x.sweep, x.last⟩
theorem tlS_cnt (b : Bool) (x : Sec) (way : Int) : tlS b (cnt (tlS b x) way) = tlS b (cnt x way) := rfl
theorem tlS_tlS (b : Bool) (x : Sec) : tlS b (tlS b x) = tlS b x := rfl
theorem tlS_pw (b : Bool) (fr tt : Int) (i : Nat) (x : Sec) : tlS b (pwS fr tt i (tlS b x)) = tlS b (pwS fr tt i x) := by
  unfold pwS
  split <;> split <;> rfl
def pwD (F T : Nat → Int) (D : Nat → Bool) (f : Nat) (d : Int) (i : Nat) (x : Sec) : Sec := if D f then x else pwS (fromZ F T f d) (toZ F T f d) i x
theorem tlS_pwD (b : Bool) (F T : Nat → Int) (D : Nat → Bool) (f : Nat) (d : Int) (i : Nat) (x : Sec) : tlS b (pwD F T D f d i (tlS b x)) = tlS b (pwD F T D f d i x) := by
  unfold pwD
  split
  · rfl
  · exact tlS_pw _ _ _ _ _

theorem nxt_pass (S : Int) (n : Nat) (F T : Nat → Int) (X : Nat → Sec) (D : Nat → Bool) (f : Nat) (d : Int) (he : evB S n 1 f d = true) (i : Nat) :
    nxtX S n F T X D 1 f d i = tlS (deadB n F T D (i : Int)) (pwD F T D f d i (X i)) ∧ bhD S n D 1 f d = D := by
  have e1 : bhD S n D 1 f d = D := by unfold bhD effD; rw [he]; rfl
  refine ⟨?_, e1⟩
  unfold nxtX told1
  rw [e1]
  have e2 : bhX S n F T X D 1 f d i = pwD F T D f d i (X i) := by
    unfold bhX effX
    rw [he]
    simp only [if_true, Int.toNat_natCast]
    unfold passY pwD
    split
    · rfl
    · unfold passX pwS
      rw [cntSide_at]
      simp only [if_true]
      rw [cntSide_at]
  rw [e2]
  rfl

theorem pw_off {fr tt : Int} {i : Nat} (x : Sec) (h1 : ¬ fr = (i : Int)) (h2 : ¬ tt = (i : Int)) : pwS fr tt i x = x := by
  unfold pwS
  rw [if_neg h2, if_neg h1]
theorem ft_mem (F T : Nat → Int) (f : Nat) (d : Int) (i : Nat) (h1 : ¬ F f = (i : Int)) (h2 : ¬ T f = (i : Int)) : ¬ fromZ F T f d = (i : Int) ∧ ¬ toZ F T f d = (i : Int) := by
  unfold fromZ toZ
  split <;> exact ⟨by assumption, by assumption⟩

/-- whether two counters have no section in common -/
def apartB (F T : Nat → Int) (f h : Nat) : Prop := ∀ i : Nat, (F f = (i : Int) ∨ T f = (i : Int)) → ¬ (F h = (i : Int) ∨ T h = (i : Int))

theorem pw_swap (F T : Nat → Int) (D : Nat → Bool) (f h : Nat) (d e : Int) (i : Nat) (x : Sec) (ha : apartB F T f h) : pwD F T D h e i (pwD F T D f d i x) = pwD F T D f d i (pwD F T D h e i x) := by
  unfold pwD
  split
  · rfl
  · split
    · rfl
    · by_cases h1 : F f = (i : Int) ∨ T f = (i : Int)
      · have h2 := ha i h1
        obtain ⟨a, b⟩ := ft_mem F T h e i (fun x => h2 (.inl x)) (fun x => h2 (.inr x))
        rw [pw_off _ a b, pw_off _ a b]
      · obtain ⟨a, b⟩ := ft_mem F T f d i (fun x => h1 (.inl x)) (fun x => h1 (.inr x))
        rw [pw_off _ a b, pw_off _ a b]

theorem swap_two (S : Int) (n : Nat) (F T : Nat → Int) (X : Nat → Sec) (D : Nat → Bool) (f h : Nat) (d e : Int) (hf : evB S n 1 f d = true) (hh : evB S n 1 h e = true) (ha : apartB F T f h) (i : Nat) :
    nxtX S n F T (nxtX S n F T X D 1 f d) D 1 h e i = nxtX S n F T (nxtX S n F T X D 1 h e) D 1 f d i := by
  rw [(nxt_pass S n F T _ D h e hh i).1, (nxt_pass S n F T _ D f d hf i).1, (nxt_pass S n F T _ D f d hf i).1, (nxt_pass S n F T _ D h e hh i).1, tlS_pwD, tlS_pwD, pw_swap F T D f h d e i _ ha]

theorem trP_left (l m : List (Int × Int × Int)) (k : Nat) (h : k < l.length) (j : Nat) : trP (l ++ m) k j = trP l k j := by
  have e : (l ++ m).getD k (0, 0, 0) = l.getD k (0, 0, 0) := by simp [List.getD, List.getElem?_append_left h]
  unfold trP
  rw [e]
theorem trP_at (l : List (Int × Int × Int)) (a b : Int × Int × Int) (j : Nat) : trP (l ++ [a, b]) l.length j = (if j = 0 then a.1 else if j = 1 then a.2.1 else a.2.2) ∧ trP (l ++ [a, b]) (l.length + 1) j = (if j = 0 then b.1 else if j = 1 then b.2.1 else b.2.2) := by
  unfold trP
  constructor <;> simp [List.getD]

theorem swap_run (S : Int) (n : Nat) (F T : Nat → Int) (l : List (Int × Int × Int)) (f h : Nat) (d e : Int) (hf : evB S n 1 f d = true) (hh : evB S n 1 h e = true) (ha : apartB F T f h) :
    (∀ i, runX S n F T (trP (l ++ [(1, (f : Int), d), (1, (h : Int), e)])) (l.length + 2) i = runX S n F T (trP (l ++ [(1, (h : Int), e), (1, (f : Int), d)])) (l.length + 2) i) ∧ runD S n F T (trP (l ++ [(1, (f : Int), d), (1, (h : Int), e)])) (l.length + 2) = runD S n F T (trP (l ++ [(1, (h : Int), e), (1, (f : Int), d)])) (l.length + 2) := by
  have e0 : ∀ m, runS S n F T (trP (l ++ m)) l.length = runS S n F T (trP l) l.length := fun m => runS_congr _ _ _ _ _ _ _ (fun j hj i _ => trP_left l m j hj i)
  obtain ⟨X, D, e1⟩ : ∃ X D, runS S n F T (trP l) l.length = (X, D) := ⟨_, _, rfl⟩
  have eX : ∀ m, runX S n F T (trP (l ++ m)) l.length = X := fun m => by unfold runX; rw [e0 m, e1]
  have eD : ∀ m, runD S n F T (trP (l ++ m)) l.length = D := fun m => by unfold runD; rw [e0 m, e1]
  have go : ∀ (f h : Nat) (d e : Int), evB S n 1 f d = true → evB S n 1 h e = true → runX S n F T (trP (l ++ [(1, (f : Int), d), (1, (h : Int), e)])) (l.length + 2) = nxtX S n F T (nxtX S n F T X D 1 f d) D 1 h e ∧ runD S n F T (trP (l ++ [(1, (f : Int), d), (1, (h : Int), e)])) (l.length + 2) = D := by
    intro f h d e hf hh
    have p := trP_at l (1, (f : Int), d) (1, (h : Int), e)
    have q1 : runD S n F T (trP (l ++ [(1, (f : Int), d), (1, (h : Int), e)])) (l.length + 1) = D := by
      rw [runD_succ, (p 0).1, (p 1).1, (p 2).1, eD]
      exact (nxt_pass S n F T X D f d hf 0).2
    constructor
    · rw [runX_succ, q1, runX_succ, (p 0).1, (p 1).1, (p 2).1, (p 0).2, (p 1).2, (p 2).2, eX, eD]
      rfl
    · rw [runD_succ, q1, (p 0).2, (p 1).2, (p 2).2]
      exact (nxt_pass S n F T X D h e hh 0).2
  refine ⟨fun i => ?_, ?_⟩
  · rw [(go f h d e hf hh).1, (go h f e d hh hf).1]
    exact swap_two S n F T X D f h d e hf hh ha i
  · rw [(go f h d e hf hh).2, (go h f e d hh hf).2]

end Go.Proofs.Ytlpopfhaephfaaa

namespace Go.Proofs.Ytlpopfhaephfaaa
open Go.RowKit Go.Sort

set_option maxRecDepth 100000 in
set_option maxHeartbeats 4000000 in
theorem wState_same (lo hi lo' hi' ns nd : Nat) (v v' : Value) (ok : Bool) (X X' : Nat → Sec) (D D' : Nat → Bool) (w : World) (hs : ns ≤ 1048576) (hd : nd ≤ 1048576) (h : StF w lo hi v ok ns nd X D) (h' : StF w lo' hi' v' ok ns nd X' D') (hx : ∀ i, i < ns → X' i = X i) (he : ∀ i, i < nd → D' i = D i) :
    Calls Try.prog 17 #[v, v'] w fun e w' => e = .returned (.bool true) ∧ Below w.heap.size w w' := by
  obtain ⟨v1, v2, rfl, ⟨a1, c1, rfl, s1⟩, ⟨a2, c2, rfl, s2⟩⟩ := h
  obtain ⟨v3, v4, rfl, ⟨a3, c3, rfl, s3⟩, ⟨a4, c4, rfl, s4⟩⟩ := h'
  obtain ⟨W, eW⟩ : ∃ W, (w.alloc (.cells #[.bool ok, .slice a1 ns c1, .slice a2 nd c2] 37)).alloc (.cells #[.bool ok, .slice a3 ns c3, .slice a4 nd c4] 37) = W := ⟨_, rfl⟩
  have hB : Below w.heap.size w W := by rw [← eW]; exact (by repeat (first | exact Below.refl _ _ | assumption | refine below_alloc ?_ _ | refine Below.setCell ?_ (by first | omega | (simp; done) | (simp; omega)) _ | refine Below.alloc ?_ (by first | omega | (simp; done) | (simp; omega)) _ | refine Below.drew ?_))
  have b1 : Box3 W w.heap.size 37 (.bool ok) (.slice a1 ns c1) (.slice a2 nd c2) := by rw [← eW]; exact (Box3.lay w _ _ _ _).alloc _
  have b2 : Box3 W (w.heap.size + 1) 37 (.bool ok) (.slice a3 ns c3) (.slice a4 nd c4) := by
    rw [← eW]
    have := Box3.lay (w.alloc (.cells #[.bool ok, .slice a1 ns c1, .slice a2 nd c2] 37)) (.bool ok) (.slice a3 ns c3) (.slice a4 nd c4) 37
    rwa [World.size_alloc] at this
  have S1 : SlF W 41 5 lo hi (.slice a1 ns c1) ns (secs X) := SlF.on ⟨a1, c1, rfl, s1⟩ hB
  have S2 : SlF W 4 1 lo hi (.slice a2 nd c2) nd (bools D) := SlF.on ⟨a2, c2, rfl, s2⟩ hB
  have S3 : SlF W 41 5 lo' hi' (.slice a3 ns c3) ns (secs X') := SlF.on ⟨a3, c3, rfl, s3⟩ hB
  have S4 : SlF W 4 1 lo' hi' (.slice a4 nd c4) nd (bools D') := SlF.on ⟨a4, c4, rfl, s4⟩ hB
  clear s1 s2 s3 s4
  obtain ⟨y0, y1, y2⟩ := b1.cells
  obtain ⟨z0, z1, z2⟩ := b2.cells
  have l1 := Blk.lt b1
  have l2 := Blk.lt b2
  go_enter Try.func17, Try.ntmps17
  go_wp2
  clear eW y0 y1 y2 z0 z1 z2
  go_loopw [33] (fun i wr => ∃ k : Nat, k ≤ ns ∧ i = .int .i64 k ∧ Below W.heap.size W wr) (fun i _ => ns - (intOf i).toNat)
  case atStart => exact ⟨0, Nat.zero_le _, rfl, Below.refl _ _⟩
  case round =>
    obtain ⟨k, hk, rfl, hbel⟩ := hrel
    obtain ⟨y0, y1, y2⟩ := (b1.on hbel).cells
    obtain ⟨z0, z1, z2⟩ := (b2.on hbel).cells
    by_cases hlt : k < ns
    · have hi1 : (k : Int) < (ns : Int) := by omega
      obtain ⟨e1, e2, e3, h0⟩ := id S1
      cases e3
      obtain ⟨e1, e2, e3, h0'⟩ := id S3
      cases e3
      rcases h0 with h0 | ⟨g, mm, f, rfl, _, _, h2, h3, h4⟩
      · omega
      rcases h0' with h0' | ⟨g', mm', f', rfl, _, _, h2', h3', h4'⟩
      · omega
      obtain ⟨f0, f1, f2, f3, f4⟩ := five (h3.below hbel h3.lt) h2 hlt h4
      obtain ⟨g0, g1, g2, g3, g4⟩ := five (h3'.below hbel h3'.lt) h2' hlt h4'
      rw [hx k hlt] at g0 g1 g2 g3 g4
      obtain ⟨x, ex⟩ : ∃ x, X k = x := ⟨_, rfl⟩
      rw [ex] at f0 f1 f2 f3 f4 g0 g1 g2 g3 g4
      have HB : Hid (Below W.heap.size W wr) := hbel
      clear h3 h3' h4 h4' hbel S1 S2 S3 S4 b1 b2 hx he ex hB
      go_wp2
      go_region
      go_wp2
      go_roundw
      case rel => exact ⟨k + 1, by omega, by go_num, HB.out.drew⟩
      case measure => simp [intOf]; omega
    · have hkn : k = ns := by omega
      subst hkn
      have hi1 : ¬ (k : Int) < (k : Int) := by omega
      have HB : Hid (Below W.heap.size W wr) := hbel
      clear hbel
      go_wp2
      clear y0 y1 y2 z0 z1 z2
      rename World => wo
      go_loopw [51] (fun i wr => ∃ j : Nat, j ≤ nd ∧ i = .int .i64 j ∧ Below W.heap.size W wr) (fun i _ => nd - (intOf i).toNat)
      case atStart => exact ⟨0, Nat.zero_le _, rfl, HB.out⟩
      case round =>
        clear HB
        rename World => wr
        obtain ⟨j, hj, rfl, hbel⟩ := hrel
        obtain ⟨y0, y1, y2⟩ := (b1.on hbel).cells
        obtain ⟨z0, z1, z2⟩ := (b2.on hbel).cells
        by_cases hlt : j < nd
        · have hi1 : (j : Int) < (nd : Int) := by omega
          obtain ⟨e1, e2, e3, h0⟩ := id S2
          cases e3
          obtain ⟨e1, e2, e3, h0'⟩ := id S4
          cases e3
          rcases h0 with h0 | ⟨g, mm, f, rfl, _, _, h2, h3, h4⟩
          · omega
          rcases h0' with h0' | ⟨g', mm', f', rfl, _, _, h2', h3', h4'⟩
          · omega
          have f0 := one (h3.below hbel h3.lt) h2 hlt h4
          have g0 := one (h3'.below hbel h3'.lt) h2' hlt h4'
          rw [he j hlt] at g0
          obtain ⟨x, ex⟩ : ∃ x, D j = x := ⟨_, rfl⟩
          rw [ex] at f0 g0
          have HB : Hid (Below W.heap.size W wr) := hbel
          clear h3 h3' h4 h4' hbel S1 S2 S3 S4 b1 b2 hx he ex hB
          go_wp2
          go_region
          go_wp2
          go_roundw
          case rel => exact ⟨j + 1, by omega, by go_num, HB.out.drew⟩
          case measure => simp [intOf]; omega
        · have hjn : j = nd := by omega
          subst hjn
          have hi1 : ¬ (j : Int) < (j : Int) := by omega
          go_wp2
          go_ret
          exact ⟨rfl, below_on hB hbel⟩

set_option maxRecDepth 100000 in
set_option maxHeartbeats 4000000 in
theorem wDone_same (lo hi lo' hi' m ns nd : Nat) (v v' : Value) (C : Nat → Int) (B : Nat → Bool) (X : Nat → Nat → Sec) (D : Nat → Nat → Bool) (w : World) (hm : m ≤ 1048576) (hs : ns ≤ 1048576) (hd : nd ≤ 1048576) (h : DnF w lo hi v m ns nd C B X D) (h' : DnF w lo' hi' v' m ns nd C B X D) :
    Calls Try.prog 14 #[v, v'] w fun e w' => e = .returned (.bool true) ∧ Below w.heap.size w w' := by
  obtain ⟨A1, A2, L, ⟨ao, cap, rfl, h0⟩, _, _, hh⟩ := h
  obtain ⟨A1', A2', L', ⟨ao', cap', rfl, h0'⟩, _, _, hh'⟩ := h'
  go_enter Try.func14, Try.ntmps14
  go_wp2
  go_loopw [13] (fun i wr => ∃ k : Nat, k ≤ m ∧ i = .int .i64 k ∧ Below w.heap.size w wr) (fun i _ => m - (intOf i).toNat)
  case atStart => exact ⟨0, Nat.zero_le _, rfl, Below.refl _ _⟩
  case round =>
    obtain ⟨k, hk, rfl, hbel⟩ := hrel
    by_cases hlt : k < m
    · have hi1 : (k : Int) < (m : Int) := by omega
      rcases h0 with h0 | ⟨g, mm, f, rfl, _, _, h2, h3, h4⟩
      · omega
      rcases h0' with h0' | ⟨g', mm', f', rfl, _, _, h2', h3', h4'⟩
      · omega
      obtain ⟨c0, c1, c2, c3⟩ := four (h3.below hbel h3.lt) h2 hlt h4
      obtain ⟨d0, d1, d2, d3⟩ := four (h3'.below hbel h3'.lt) h2' hlt h4'
      obtain ⟨_, s1, s2⟩ := hh k hlt
      obtain ⟨_, s1', s2'⟩ := hh' k hlt
      have st : StF wr (L k) (L (k + 1)) (.agg #[.bool (B k), A1 k, A2 k]) (B k) ns nd (X k) (D k) := ⟨_, _, rfl, s1.on hbel, s2.on hbel⟩
      have st' : StF wr (L' k) (L' (k + 1)) (.agg #[.bool (B k), A1' k, A2' k]) (B k) ns nd (X k) (D k) := ⟨_, _, rfl, s1'.on hbel, s2'.on hbel⟩
      have ce : ∀ dd os, _ := fun dd os => Calls.regrown_of (wState_same _ _ _ _ ns nd _ _ (B k) (X k) (X k) (D k) (D k) (grow (redrawn wr dd) os) hs hd (st.on (below_regrown wr dd os)) (st'.on (below_regrown wr dd os)) (fun _ _ => rfl) (fun _ _ => rfl))
      have kc0 := cell_regrown c0
      have kc1 := cell_regrown c1
      have kc2 := cell_regrown c2
      have kc3 := cell_regrown c3
      have kd0 := cell_regrown d0
      have kd1 := cell_regrown d1
      have kd2 := cell_regrown d2
      have kd3 := cell_regrown d3
      have HB : Hid (Below w.heap.size w wr) := hbel
      clear h3 h3' h4 h4' hbel hh hh' s1 s2 s1' s2' st st' c0 c1 c2 c3 d0 d1 d2 d3
      go_upto_region 6 with fail
      refine wp_region_quiet_below (by kernel_rfl) (by kernel_rfl) ?_
      repeat (go_big_quiet_step (first | with_reducible exact ce _ _))
      refine wpQuiet_nil ?_
      intro _ hw'
      obtain ⟨⟨dq, osq⟩, hw''⟩ := hw'
      have hBq := below_regrown wr dq osq
      subst hw''
      clear kc0 kc1 kc2 kc3 kd0 kd1 kd2 kd3 ce
      generalize grow (redrawn wr dq) osq = wq at *
      go_wp2
      go_roundw
      case rel => exact ⟨k + 1, by omega, by go_num, below_on HB.out hBq⟩
      case measure => simp [intOf]; omega
    · have hkn : k = m := by omega
      subst hkn
      go_wp2
      go_ret
      exact ⟨rfl, hbel⟩

end Go.Proofs.Ytlpopfhaephfaaa

namespace Go.Proofs.Ytlpopfhaephfaaa
open Go.RowKit

/-- a byte of the second argument -/
def wbV (C : Nat → Int) (m i : Nat) : Int := if m = 0 then 0 else C (i % m)
theorem wbV_range {w : World} {B m : Nat} {ao : Option Addr} {C : Nat → Int} (h : Cod w B ao m C) (i : Nat) : 0 ≤ wbV C m i ∧ wbV C m i < 256 := by
  unfold wbV
  split
  · omega
  · rcases h with h | ⟨b, off, _, _, h3⟩
    · omega
    · exact (h3 _ (Nat.mod_lt _ (by omega))).2

theorem wByte_any (B m cap i : Nat) (ao : Option Addr) (C : Nat → Int) (w : World) (h : Cod w B ao m C) (hm : m ≤ 1048576) (hi : i < 100) :
    Calls Try.prog 20 #[.slice ao m cap, .int .i64 (i : Int)] w fun e w' => e = .returned (.int .i64 (wbV C m i)) ∧ w' = w := by
  obtain ⟨r1, r2⟩ := wbV_range h i
  unfold wbV at r1 r2 ⊢
  by_cases h0 : m = 0
  · subst h0
    rw [if_pos rfl]
    go_enter Try.func20, Try.ntmps20
    go_wp2
    go_ret
    exact ⟨rfl, rfl⟩
  · rw [if_neg h0] at r1 r2 ⊢
    rcases h with h | ⟨b, off, rfl, _, h3⟩
    · omega
    have hl := Nat.mod_lt i (Nat.pos_of_ne_zero h0)
    have c0 := (h3 _ hl).1
    have hm0 : ¬ (m : Int) = 0 := by omega
    have hm1 : (1 : Int) ≤ m := by omega
    have e : (i : Int) % (m : Int) = ((i % m : Nat) : Int) := by omega
    obtain ⟨j, ej⟩ : ∃ j, i % m = j := ⟨_, rfl⟩
    rw [ej] at hl c0 e r1 r2 ⊢
    clear h3
    go_enter Try.func20, Try.ntmps20
    go_wp2
    go_ret
    exact ⟨rfl, rfl⟩

/-- append of nothing -/
theorem run_append_zero {P : Program} {w : World} (base : Nat) (t ty e : TypeId) (i : TypeInfo) (size : Nat) (ht : P.underlying t = some (.slice e)) (hi : P.info? e = some i)
    (v : Value) (n : Nat) (xs : List Value) (hown : w.ownsRow base e size v n xs) (ao : Option Addr) (c : Nat) : (Builtin.append_ #[t, t] ty #[v, .slice ao 0 c]).run P w = .ok v w := by
  cases ao
  · rcases hown.2 with ⟨rfl, rfl⟩ | ⟨g, cap, cur, rfl, _, _, hnc, _⟩
    · simp [Builtin.append_, run_underlying ht, sizeOf, typeInfo, hi, Builtin.lenOf, Builtin.firstCells]
    · simp [Builtin.append_, run_underlying ht, sizeOf, typeInfo, hi, Builtin.lenOf, Builtin.firstCells, hnc, storeCells]
  · rcases hown.2 with ⟨rfl, rfl⟩ | ⟨g, cap, cur, rfl, _, _, hnc, _⟩
    · simp [Builtin.append_, run_underlying ht, sizeOf, typeInfo, hi, Builtin.lenOf, Builtin.firstCells, loadCells, loadCellsFrom]
    · simp [Builtin.append_, run_underlying ht, sizeOf, typeInfo, hi, Builtin.lenOf, Builtin.firstCells, hnc, storeCells, loadCells, loadCellsFrom]

theorem step_append_zero {P : Program} {ops : Array Oper} {o : Oper} {a : Act} {w : World} {K : Act → World → Prop} {Q : Exit → Act → World → Prop} {E : Prop}
    (hgd : o.guard = none) (s x : Operand) (t : TypeId) (ho : o.op = .call { callee := .builtin .append, args := #[s, x], argTypes := #[t, t] })
    (base : Nat) (e : TypeId) (i : TypeInfo) (size : Nat) (ht : P.underlying t = some (.slice e)) (hi : P.info? e = some i)
    (v : Value) (n : Nat) (xs : List Value) (hs : a.eval s = v) (hown : w.ownsRow base e size v n xs) (ao : Option Addr) (c : Nat) (hx : a.eval x = .slice ao 0 c) (h : K (a.put o.dst v) w) :
    if Region.wanted o (yielded ops a.tmps) = true then Oper.wp P o a w K Q else E := by
  have hw : Region.wanted o (yielded ops a.tmps) = true := by simp [Region.wanted, hgd]
  rw [if_pos hw]
  have hr := run_append_zero (P := P) (w := w) base t o.type e i size ht hi v n xs hown ao c
  unfold Oper.wp execOp
  simp only [ho, resolve, invoke, builtin, Sem.run_bind, Sem.run_pure, Result.andThen_ok, List.map_toArray, List.map_cons, List.map_nil, hs, hx, hr]
  exact h

theorem step_append_any {P : Program} {ops : Array Oper} {o : Oper} {a : Act} {w : World} {K : Act → World → Prop} {Q : Exit → Act → World → Prop} {E : Prop}
    (hgd : o.guard = none) (s x : Operand) (t : TypeId) (ho : o.op = .call { callee := .builtin .append, args := #[s, x], argTypes := #[t, t] })
    (base : Nat) (e : TypeId) (i : TypeInfo) (z : Value) (size bytes : Nat) (ht : P.underlying t = some (.slice e)) (hi : P.info? e = some i) (hz : i.zero = some z)
    (hsize : i.size = size) (hby : i.bytes = bytes) (hzs : z.cells.size = size) (hsz : 0 < size)
    (v : Value) (n : Nat) (xs : List Value) (hs : a.eval s = v) (hown : w.ownsRow base e size v n xs)
    (ao : Option Addr) (m c : Nat) (news : List Value) (hx : a.eval x = .slice ao m c) (hl : news.length = m * size) (hsrc : m = 0 ∨ ∃ ad, ao = some ad ∧ ∀ j u, news[j]? = some u → w.cell? (ad.add j) = some u) (h1 : ∀ u ∈ news, u.oneCell' = true)
    (h63 : n + m ≤ maxLen) (hbytes : (n + m) * bytes ≤ 140737488355328) (hbase : base ≤ w.heap.size)
    (h : ∀ v' w', w'.ownsRow base e size v' (n + m) (xs ++ news) → w.grownBy w' v.ownBlock → K (a.put o.dst v') w') :
    if Region.wanted o (yielded ops a.tmps) = true then Oper.wp P o a w K Q else E := by
  rcases hsrc with rfl | ⟨ad, rfl, hnews⟩
  · have hn : news = [] := List.eq_nil_of_length_eq_zero (by rw [hl]; omega)
    subst hn
    refine step_append_zero hgd s x t ho base e i size ht hi v n xs hs hown ao c hx (h v w ?_ (World.grownBy.refl _ _))
    simpa using hown
  · exact step_append_own hgd s x t ho base e i z size bytes ht hi hz hsize hby hzs hsz v n xs hs hown ad m c news hx hl hnews h1 h63 hbytes hbase (fun v' w' a b _ => h v' w' a b)

theorem own_empty (w : World) (base e sz : Nat) (hb : base ≤ w.heap.size) : (w.alloc (.cells #[] e)).ownsRow base e sz (.slice (some ⟨w.heap.size, 0, none⟩) 0 0) 0 [] :=
  ⟨by simp, .inr ⟨w.heap.size, 0, #[], rfl, hb, heap_alloc_new w _, Nat.le_refl _, by unfold maxLen; omega, by simp, by simp⟩⟩

theorem trC_len (l : List (Int × Int × Int)) : (trC l).length = l.length * 3 := by
  induction l with
  | nil => rfl
  | cons a l ih => simp only [trC, List.flatMap_cons, List.length_append, List.length_cons, List.length_nil] at ih ⊢; omega
theorem trC_app (l m : List (Int × Int × Int)) : trC (l ++ m) = trC l ++ trC m := by simp [trC]
theorem trC_one (l : List (Int × Int × Int)) : ∀ u ∈ trC l, u.oneCell' = true := by
  intro u hu
  unfold trC at hu
  obtain ⟨x, _, hx⟩ := List.mem_flatMap.1 hu
  simp only [List.mem_cons, List.not_mem_nil, or_false] at hx
  rcases hx with rfl | rfl | rfl <;> rfl

/-- a list of events in memory, as append reads it -/
theorem evl_src {w : World} {lo hi : Nat} {u : Value} {E : List (Int × Int × Int)} (h : SlF w 45 3 lo hi u E.length (evs (trP E))) : ∃ ao c, u = .slice ao E.length c ∧ (E.length = 0 ∨ ∃ ad, ao = some ad ∧ ∀ j x, (trC E)[j]? = some x → w.cell? (ad.add j) = some x) := by
  obtain ⟨ao, c, rfl, h0 | ⟨g, m, f, rfl, _, _, h2, h3, h4⟩⟩ := h
  · exact ⟨ao, c, rfl, .inl h0⟩
  · refine ⟨_, c, rfl, .inr ⟨_, rfl, fun j x hj => ?_⟩⟩
    have hlt : j < E.length * 3 := by rw [← trC_len]; exact (List.getElem?_eq_some_iff.1 hj).1
    have ea : (⟨g, 0, none⟩ : Addr).add j = ⟨g, j, none⟩ := by simp [Addr.add]; exact fun h => h.symm
    have e1 : j = j / 3 * 3 + j % 3 := by omega
    rw [ea, h3.cell (by omega)]
    rw [e1, trC_get E (j / 3) (j % 3) (by omega) (by omega)] at hj
    rw [e1, h4 (j / 3) (by omega) (j % 3) (by omega)]
    exact hj

theorem src_on {w w' : World} {lo hi : Nat} {ao : Option Addr} {c : Nat} {E : List (Int × Int × Int)} (h : SlF w 45 3 lo hi (.slice ao E.length c) E.length (evs (trP E))) (hb : Below w.heap.size w w') : E.length = 0 ∨ ∃ ad, ao = some ad ∧ ∀ j x, (trC E)[j]? = some x → w'.cell? (ad.add j) = some x := by
  obtain ⟨ao', c', e, h0⟩ := evl_src (h.on hb)
  cases e
  exact h0

/-- a list of events and two more -/
def TwoL (w wc : World) (q : Value) (E : List (Int × Int × Int)) (a b : Int × Int × Int) : Prop := SlF wc 45 3 w.heap.size wc.heap.size q (E.length + 2) (evs (trP (E ++ [a, b])))
theorem TwoL.of_own {w wc : World} {base : Nat} {q : Value} {E : List (Int × Int × Int)} {a b : Int × Int × Int} (hb : w.heap.size ≤ base) (h : wc.ownsRow base 45 3 q (0 + E.length + 2) ([] ++ trC E ++ trC [a, b])) : TwoL w wc q E a b := by
  rw [List.nil_append, ← trC_app, Nat.zero_add] at h
  exact (ow_slf h (fun i hi j hj => trC_get (E ++ [a, b]) i j (by simpa using hi) hj)).wide hb (Nat.le_refl _)

theorem nw_cells6 (w : World) (a b c d e f : Value) (t : TypeId) : ∀ j u, [a, b, c, d, e, f][j]? = some u → (w.alloc (.cells #[a, b, c, d, e, f] t)).cell? ((⟨w.heap.size, 0, none⟩ : Addr).add j) = some u := by
  intro j u hu
  have hj : j < 6 := (List.getElem?_eq_some_iff.1 hu).1
  have ea : (⟨w.heap.size, 0, none⟩ : Addr).add j = ⟨w.heap.size, j, none⟩ := by simp [Addr.add]; exact fun h => h.symm
  rw [ea]
  match j, hj with
  | 0, _ => simpa using hu
  | 1, _ => simpa using hu
  | 2, _ => simpa using hu
  | 3, _ => simpa using hu
  | 4, _ => simpa using hu
  | 5, _ => simpa using hu

/-- a block of two events -/
def Six (w : World) (b : Nat) (x y : Int × Int × Int) : Prop := Blk w b 45 6 (fun i => (trC [x, y]).getD i (.int .i64 0))
theorem Six.lay (w : World) (x y : Int × Int × Int) : Six (w.alloc (.cells #[.int .i64 x.1, .int .i64 x.2.1, .int .i64 x.2.2, .int .i64 y.1, .int .i64 y.2.1, .int .i64 y.2.2] 45)) w.heap.size x y :=
  Blk.new w #[.int .i64 x.1, .int .i64 x.2.1, .int .i64 x.2.2, .int .i64 y.1, .int .i64 y.2.1, .int .i64 y.2.2] _ _ (fun i hi => by
    simp only [List.size_toArray, List.length_cons, List.length_nil] at hi
    match i, hi with
    | 0, _ => rfl
    | 1, _ => rfl
    | 2, _ => rfl
    | 3, _ => rfl
    | 4, _ => rfl
    | 5, _ => rfl)
theorem Six.src {w : World} {b : Nat} {x y : Int × Int × Int} (h : Six w b x y) : ∀ j u, (trC [x, y])[j]? = some u → w.cell? ((⟨b, 0, none⟩ : Addr).add j) = some u := by
  intro j u hu
  have hj : j < 6 := (List.getElem?_eq_some_iff.1 hu).1
  have ea : (⟨b, 0, none⟩ : Addr).add j = ⟨b, j, none⟩ := by simp [Addr.add]; exact fun h => h.symm
  rw [ea, Blk.cell h hj]
  simp [List.getD, hu]
theorem own_two {w : World} {v : Value} {b : Nat} (hb : v.ownBlock ≠ some b) {w' : World} (hg : w.grownBy w' v.ownBlock) {x y : Int × Int × Int} (hs : Six w b x y) : Six w' b x y := by
  exact Blk.grown hs hg hb

end Go.Proofs.Ytlpopfhaephfaaa

namespace Go.Proofs.Ytlpopfhaephfaaa
open Go.RowKit

theorem dnAt {w : World} {lo hi : Nat} {v : Value} {m ns nd k : Nat} {C : Nat → Int} {B : Nat → Bool} {X : Nat → Nat → Sec} {D : Nat → Nat → Bool} (h : DnF w lo hi v m ns nd C B X D) (hk : k < m) : ∃ g c u1 u2 lo' hi', v = .slice (some ⟨g, 0, none⟩) m c ∧ w.cell? ⟨g, k * 4, none⟩ = some (.int .i64 (C k)) ∧ w.cell? ⟨g, k * 4 + 1, none⟩ = some (.bool (B k)) ∧ w.cell? ⟨g, k * 4 + 2, none⟩ = some u1 ∧ w.cell? ⟨g, k * 4 + 3, none⟩ = some u2 ∧ SlF w 41 5 lo' hi' u1 ns (secs (X k)) ∧ SlF w 4 1 lo' hi' u2 nd (bools (D k)) := by
  obtain ⟨A1, A2, L, ⟨ao, c, rfl, h0 | ⟨g, m', f, rfl, _, _, h2, h3, h4⟩⟩, _, _, hh⟩ := h
  · omega
  · obtain ⟨c0, c1, c2, c3⟩ := four h3 h2 hk h4
    exact ⟨g, c, _, _, _, _, rfl, c0, c1, c2, c3, (hh k hk).2.1, (hh k hk).2.2⟩

theorem seAt {w : World} {lo hi : Nat} {u : Value} {n k : Nat} {X : Nat → Sec} (h : SlF w 41 5 lo hi u n (secs X)) (hk : k < n) : ∃ g c, u = .slice (some ⟨g, 0, none⟩) n c ∧ w.cell? ⟨g, k * 5, none⟩ = some (.int .i64 (X k).told) ∧ w.cell? ⟨g, k * 5 + 1, none⟩ = some (.int .i64 (X k).count) ∧ w.cell? ⟨g, k * 5 + 2, none⟩ = some (.bool (X k).lost) ∧ w.cell? ⟨g, k * 5 + 3, none⟩ = some (.bool (X k).sweep) ∧ w.cell? ⟨g, k * 5 + 4, none⟩ = some (.int .i64 (X k).last) := by
  obtain ⟨ao, c, rfl, h0 | ⟨g, m, f, rfl, _, _, h2, h3, h4⟩⟩ := h
  · omega
  · exact ⟨g, c, rfl, five h3 h2 hk h4⟩

end Go.Proofs.Ytlpopfhaephfaaa
