import Derived.Test.YtlpopfhaephfaaaRN2
import Derived.Test.YtlpopfhaephfaaaCU2
import Derived.BigQuiet
import Derived.Lib.QuietBelow
import Derived.Deep.RegionWith
import Derived.Deep.QuietTactic
import Derived.Test.YtlpopfhaephfaaaRE1
import Derived.Test.YtlpopfhaephfaaaRN3
import Derived.Test.YtlpopfhaephfaaaQR
import Derived.Test.YtlpopfhaephfaaaIM3
import Derived.Test.YtlpopfhaephfaaaRN5
import Derived.Test.YtlpopfhaephfaaaQT
import Derived.Test.YtlpopfhaephfaaaCU3f
import Derived.Test.YtlpopfhaephfaaaCU1
import Derived.Test.YtlpopfhaephfaaaRows
import Derived.ChangeSlices
import Derived.ProofKit
import Derived.Lib.SmallJoins
import Derived.Deep.SlicePairs
namespace Go.Proofs.Ytlpopfhaephfaaa
open Go.RowKit Go.Sort

set_option maxRecDepth 100000 in
set_option maxHeartbeats 4000000 in
theorem wState_same (lo hi lo' hi' ns nd : Nat) (v v' : Value) (ok : Bool) (X X' : Nat → Sec) (D D' : Nat → Bool) (w : World) (hs : ns ≤ 1048576) (hd : nd ≤ 1048576) (h : StF w lo hi v ok ns nd X D) (h' : StF w lo' hi' v' ok ns nd X' D') (hx : ∀ i, i < ns → X' i = X i) (he : ∀ i, i < nd → D' i = D i) :
    Calls Try.prog 17 #[v, v'] w fun e w' => e = .returned (.bool true) ∧ Below w.heap.size w w' := by
  obtain ⟨v1, v2, rfl, ⟨a1, c1, rfl, s1⟩, ⟨a2, c2, rfl, s2⟩⟩ := h
  obtain ⟨v3, v4, rfl, ⟨a3, c3, rfl, s3⟩, ⟨a4, c4, rfl, s4⟩⟩ := h'
  obtain ⟨W, eW⟩ : ∃ W, (w.alloc (.cells #[.bool ok, .slice a1 ns c1, .slice a2 nd c2] 37)).alloc (.cells #[.bool ok, .slice a3 ns c3, .slice a4 nd c4] 37) = W := ⟨_, rfl⟩
  have hB : Below w.heap.size w W := by rw [← eW]; exact (by repeat (first | exact Below.refl _ _ | assumption | refine below_alloc ?_ _ | refine Below.setCell ?_ (by first | omega | (simp; done) | (simp; omega)) _ | refine Below.alloc ?_ (by first | omega | (simp; done) | (simp; omega)) _ | refine Below.drew ?_))
  have b1 : Box3 W w.heap.size 37 (.bool ok) (.slice a1 ns c1) (.slice a2 nd c2) := by rw [← eW]; exact (Box3.lay w _ _ _ _).alloc _
  have b2 : Box3 W (w.heap.size + 1) 37 (.bool ok) (.slice a3 ns c3) (.slice a4 nd c4) := by
    rw [← eW]
    have := Box3.lay (w.alloc (.cells #[.bool ok, .slice a1 ns c1, .slice a2 nd c2] 37)) (.bool ok) (.slice a3 ns c3) (.slice a4 nd c4) 37
    rwa [World.size_alloc] at this
  have S1 : SlF W 41 5 lo hi (.slice a1 ns c1) ns (secs X) := SlF.on ⟨a1, c1, rfl, s1⟩ hB
  have S2 : SlF W 4 1 lo hi (.slice a2 nd c2) nd (bools D) := SlF.on ⟨a2, c2, rfl, s2⟩ hB
  have S3 : SlF W 41 5 lo' hi' (.slice a3 ns c3) ns (secs X') := SlF.on ⟨a3, c3, rfl, s3⟩ hB
  have S4 : SlF W 4 1 lo' hi' (.slice a4 nd c4) nd (bools D') := SlF.on ⟨a4, c4, rfl, s4⟩ hB
  clear s1 s2 s3 s4
  obtain ⟨y0, y1, y2⟩ := b1.cells
  obtain ⟨z0, z1, z2⟩ := b2.cells
  have l1 := Blk.lt b1
  have l2 := Blk.lt b2
  go_enter Try.func17, Try.ntmps17
  go_wp2
  clear eW y0 y1 y2 z0 z1 z2
  go_loopw [33] (fun i wr => ∃ k : Nat, k ≤ ns ∧ i = .int .i64 k ∧ Below W.heap.size W wr) (fun i _ => ns - (intOf i).toNat)
  case atStart => exact ⟨0, Nat.zero_le _, rfl, Below.refl _ _⟩
  case round =>
    obtain ⟨k, hk, rfl, hbel⟩ := hrel
    obtain ⟨y0, y1, y2⟩ := (b1.on hbel).cells
    obtain ⟨z0, z1, z2⟩ := (b2.on hbel).cells
    by_cases hlt : k < ns
    · have hi1 : (k : Int) < (ns : Int) := by omega
      obtain ⟨e1, e2, e3, h0⟩ := id S1
      cases e3
      obtain ⟨e1, e2, e3, h0'⟩ := id S3
      cases e3
      rcases h0 with h0 | ⟨g, mm, f, rfl, _, _, h2, h3, h4⟩
      · omega
      rcases h0' with h0' | ⟨g', mm', f', rfl, _, _, h2', h3', h4'⟩
      · omega
      obtain ⟨f0, f1, f2, f3, f4⟩ := five (h3.below hbel h3.lt) h2 hlt h4
      obtain ⟨g0, g1, g2, g3, g4⟩ := five (h3'.below hbel h3'.lt) h2' hlt h4'
      rw [hx k hlt] at g0 g1 g2 g3 g4
      obtain ⟨x, ex⟩ : ∃ x, X k = x := ⟨_, rfl⟩
      rw [ex] at f0 f1 f2 f3 f4 g0 g1 g2 g3 g4
      have HB : Hid (Below W.heap.size W wr) := hbel
      clear h3 h3' h4 h4' hbel S1 S2 S3 S4 b1 b2 hx he ex hB
      go_wp2
      go_region
      go_wp2
      go_roundw
      case rel => exact ⟨k + 1, by omega, by go_num, HB.out.drew⟩
      case measure => simp [intOf]; omega
    · have hkn : k = ns := by omega
      subst hkn
      have hi1 : ¬ (k : Int) < (k : Int) := by omega
      have HB : Hid (Below W.heap.size W wr) := hbel
      clear hbel
      go_wp2
      clear y0 y1 y2 z0 z1 z2
      rename World => wo
      go_loopw [51] (fun i wr => ∃ j : Nat, j ≤ nd ∧ i = .int .i64 j ∧ Below W.heap.size W wr) (fun i _ => nd - (intOf i).toNat)
      case atStart => exact ⟨0, Nat.zero_le _, rfl, HB.out⟩
      case round =>
        clear HB
        rename World => wr
        obtain ⟨j, hj, rfl, hbel⟩ := hrel
        obtain ⟨y0, y1, y2⟩ := (b1.on hbel).cells
        obtain ⟨z0, z1, z2⟩ := (b2.on hbel).cells
        by_cases hlt : j < nd
        · have hi1 : (j : Int) < (nd : Int) := by omega
          obtain ⟨e1, e2, e3, h0⟩ := id S2
          cases e3
          obtain ⟨e1, e2, e3, h0'⟩ := id S4
          cases e3
          rcases h0 with h0 | ⟨g, mm, f, rfl, _, _, h2, h3, h4⟩
          · omega
          rcases h0' with h0' | ⟨g', mm', f', rfl, _, _, h2', h3', h4'⟩
          · omega
          have f0 := one (h3.below hbel h3.lt) h2 hlt h4
          have g0 := one (h3'.below hbel h3'.lt) h2' hlt h4'
          rw [he j hlt] at g0
          obtain ⟨x, ex⟩ : ∃ x, D j = x := ⟨_, rfl⟩
          rw [ex] at f0 g0
          have HB : Hid (Below W.heap.size W wr) := hbel
          clear h3 h3' h4 h4' hbel S1 S2 S3 S4 b1 b2 hx he ex hB
          go_wp2
          go_region
          go_wp2
          go_roundw
          case rel => exact ⟨j + 1, by omega, by go_num, HB.out.drew⟩
          case measure => simp [intOf]; omega
        · have hjn : j = nd := by omega
          subst hjn
          have hi1 : ¬ (j : Int) < (j : Int) := by omega
          go_wp2
          go_ret
          exact ⟨rfl, below_on hB hbel⟩

set_option maxRecDepth 100000 in
set_option maxHeartbeats 4000000 in
theorem wDone_same (lo hi lo' hi' m ns nd : Nat) (v v' : Value) (C : Nat → Int) (B : Nat → Bool) (X : Nat → Nat → Sec) (D : Nat → Nat → Bool) (w : World) (hm : m ≤ 1048576) (hs : ns ≤ 1048576) (hd : nd ≤ 1048576) (h : DnF w lo hi v m ns nd C B X D) (h' : DnF w lo' hi' v' m ns nd C B X D) :
    Calls Try.prog 14 #[v, v'] w fun e w' => e = .returned (.bool true) ∧ Below w.heap.size w w' := by
  obtain ⟨A1, A2, L, ⟨ao, cap, rfl, h0⟩, _, _, hh⟩ := h
  obtain ⟨A1', A2', L', ⟨ao', cap', rfl, h0'⟩, _, _, hh'⟩ := h'
  go_enter Try.func14, Try.ntmps14
  go_wp2
  go_loopw [13] (fun i wr => ∃ k : Nat, k ≤ m ∧ i = .int .i64 k ∧ Below w.heap.size w wr) (fun i _ => m - (intOf i).toNat)
  case atStart => exact ⟨0, Nat.zero_le _, rfl, Below.refl _ _⟩
  case round =>
    obtain ⟨k, hk, rfl, hbel⟩ := hrel
    by_cases hlt : k < m
    · have hi1 : (k : Int) < (m : Int) := by omega
      rcases h0 with h0 | ⟨g, mm, f, rfl, _, _, h2, h3, h4⟩
      · omega
      rcases h0' with h0' | ⟨g', mm', f', rfl, _, _, h2', h3', h4'⟩
      · omega
      obtain ⟨c0, c1, c2, c3⟩ := four (h3.below hbel h3.lt) h2 hlt h4
      obtain ⟨d0, d1, d2, d3⟩ := four (h3'.below hbel h3'.lt) h2' hlt h4'
      obtain ⟨_, s1, s2⟩ := hh k hlt
      obtain ⟨_, s1', s2'⟩ := hh' k hlt
      have st : StF wr (L k) (L (k + 1)) (.agg #[.bool (B k), A1 k, A2 k]) (B k) ns nd (X k) (D k) := ⟨_, _, rfl, s1.on hbel, s2.on hbel⟩
      have st' : StF wr (L' k) (L' (k + 1)) (.agg #[.bool (B k), A1' k, A2' k]) (B k) ns nd (X k) (D k) := ⟨_, _, rfl, s1'.on hbel, s2'.on hbel⟩
      have ce : ∀ dd os, _ := fun dd os => Calls.regrown_of (wState_same _ _ _ _ ns nd _ _ (B k) (X k) (X k) (D k) (D k) (grow (redrawn wr dd) os) hs hd (st.on (below_regrown wr dd os)) (st'.on (below_regrown wr dd os)) (fun _ _ => rfl) (fun _ _ => rfl))
      have kc0 := cell_regrown c0
      have kc1 := cell_regrown c1
      have kc2 := cell_regrown c2
      have kc3 := cell_regrown c3
      have kd0 := cell_regrown d0
      have kd1 := cell_regrown d1
      have kd2 := cell_regrown d2
      have kd3 := cell_regrown d3
      have HB : Hid (Below w.heap.size w wr) := hbel
      clear h3 h3' h4 h4' hbel hh hh' s1 s2 s1' s2' st st' c0 c1 c2 c3 d0 d1 d2 d3
      go_upto_region 6 with fail
      refine wp_region_quiet_below (by kernel_rfl) (by kernel_rfl) ?_
      repeat (go_big_quiet_step (first | with_reducible exact ce _ _))
      refine wpQuiet_nil ?_
      intro _ hw'
      obtain ⟨⟨dq, osq⟩, hw''⟩ := hw'
      have hBq := below_regrown wr dq osq
      subst hw''
      clear kc0 kc1 kc2 kc3 kd0 kd1 kd2 kd3 ce
      generalize grow (redrawn wr dq) osq = wq at *
      go_wp2
      go_roundw
      case rel => exact ⟨k + 1, by omega, by go_num, below_on HB.out hBq⟩
      case measure => simp [intOf]; omega
    · have hkn : k = m := by omega
      subst hkn
      go_wp2
      go_ret
      exact ⟨rfl, hbel⟩

end Go.Proofs.Ytlpopfhaephfaaa

namespace Go.Proofs.Ytlpopfhaephfaaa
open Go.RowKit

theorem tri {w : World} {g e m n k : Nat} {f : Nat → Value} {P : Nat → Nat → Int} (h : Blk w g e m f) (hm : n * 3 ≤ m) (hk : k < n) (hf : ∀ i, i < n → ∀ j, j < 3 → f (i * 3 + j) = evs P i j) :
    w.cell? ⟨g, k * 3, none⟩ = some (.int .i64 (P k 0)) ∧ w.cell? ⟨g, k * 3 + 1, none⟩ = some (.int .i64 (P k 1)) ∧ w.cell? ⟨g, k * 3 + 2, none⟩ = some (.int .i64 (P k 2)) :=
  ⟨by rw [h.cell (by omega)]; exact congrArg some (hf k hk 0 (by omega)), by rw [h.cell (by omega), hf k hk 1 (by omega)]; rfl, by rw [h.cell (by omega), hf k hk 2 (by omega)]; rfl⟩

set_option maxRecDepth 100000 in
set_option maxHeartbeats 4000000 in
theorem wEvents_same (lo hi lo' hi' m : Nat) (v v' : Value) (P : Nat → Nat → Int) (w : World) (hm : m ≤ 1048576) (h : SlF w 45 3 lo hi v m (evs P)) (h' : SlF w 45 3 lo' hi' v' m (evs P)) :
    Calls Try.prog 15 #[v, v'] w fun e w' => e = .returned (.bool true) ∧ Below w.heap.size w w' := by
  obtain ⟨ao, cap, rfl, h0⟩ := h
  obtain ⟨ao', cap', rfl, h0'⟩ := h'
  go_enter Try.func15, Try.ntmps15
  go_wp2
  go_loopw [13] (fun i wr => ∃ k : Nat, k ≤ m ∧ i = .int .i64 k ∧ Below w.heap.size w wr) (fun i _ => m - (intOf i).toNat)
  case atStart => exact ⟨0, Nat.zero_le _, rfl, Below.refl _ _⟩
  case round =>
    obtain ⟨k, hk, rfl, hbel⟩ := hrel
    by_cases hlt : k < m
    · have hi1 : (k : Int) < (m : Int) := by omega
      rcases h0 with h0 | ⟨g, mm, f, rfl, _, _, h2, h3, h4⟩
      · omega
      rcases h0' with h0' | ⟨g', mm', f', rfl, _, _, h2', h3', h4'⟩
      · omega
      obtain ⟨f0, f1, f2⟩ := tri (h3.below hbel h3.lt) h2 hlt h4
      obtain ⟨g0, g1, g2⟩ := tri (h3'.below hbel h3'.lt) h2' hlt h4'
      have HB : Hid (Below w.heap.size w wr) := hbel
      clear h3 h3' h4 h4' hbel
      go_wp2
      go_region
      go_wp2
      go_roundw
      case rel => exact ⟨k + 1, by omega, by go_num, HB.out.drew⟩
      case measure => simp [intOf]; omega
    · have hkn : k = m := by omega
      subst hkn
      go_wp2
      go_ret
      exact ⟨rfl, hbel⟩

theorem Cod.wide {w : World} {B B' : Nat} {ao : Option Addr} {m : Nat} {C : Nat → Int} (h : Cod w B ao m C) (hb : B ≤ B') : Cod w B' ao m C := by
  rcases h with h | ⟨b, off, h1, h2, h3⟩
  · exact .inl h
  · exact .inr ⟨b, off, h1, by omega, h3⟩

/-- a run whose first states were written over: what is as it was -/
def TopI (w5 wr : World) (lo hi m ns nd k : Nat) (A1 A2 : Nat → Value) (L : Nat → Nat) (X : Nat → Nat → Sec) (D : Nat → Nat → Bool) : Prop :=
  Turned w5 wr isSt lo hi ∧ ∀ j, k ≤ j → j < m → SlF wr 41 5 (L j) (L (j + 1)) (A1 j) ns (secs (X j)) ∧ SlF wr 4 1 (L j) (L (j + 1)) (A2 j) nd (bools (D j))

section
variable {w5 wr wr' : World} {lo hi m ns nd k : Nat} {A1 A2 : Nat → Value} {L : Nat → Nat} {X : Nat → Nat → Sec} {D : Nat → Nat → Bool}
theorem TopI.on (h : TopI w5 wr lo hi m ns nd k A1 A2 L X D) (hb : Below wr.heap.size wr wr') : TopI w5 wr' lo hi m ns nd k A1 A2 L X D :=
  ⟨h.1.trans (Turned.of_below hb), fun j h1 h2 => ⟨(h.2 j h1 h2).1.on hb, (h.2 j h1 h2).2.on hb⟩⟩
theorem TopI.next (h : TopI w5 wr lo hi m ns nd k A1 A2 L X D) (hk : k < m) (hL : ∀ i, i < m → L i ≤ L (i + 1)) (h0 : lo ≤ L 0) (h1 : L m ≤ hi) (ht : Turned wr wr' isSt (L k) (L (k + 1))) : TopI w5 wr' lo hi m ns nd (k + 1) A1 A2 L X D := by
  have a1 := rise' hL (Nat.zero_le k) (Nat.le_of_lt hk)
  have a2 := rise' hL (a := k + 1) (b := m) hk (Nat.le_refl _)
  refine ⟨h.1.trans (ht.mono (fun _ he => he) (by omega) (by omega)), fun j j1 j2 => ?_⟩
  have a3 := rise' hL (a := k + 1) (b := j) j1 (by omega)
  exact ⟨(h.2 j (by omega) j2).1.turned ht (.inr (.inl a3)), (h.2 j (by omega) j2).2.turned ht (.inr (.inl a3))⟩
end

/-- any cells at all of a slice, one of them turned -/
theorem any_set {w : World} {e sz lo hi g n cap : Nat} {G : Nat → Nat → Value} (h : SlF w e sz lo hi (.slice (some ⟨g, 0, none⟩) n cap) n G) {k j : Nat} (hk : k < n) (hj : j < sz) (u : Value) :
    (∃ G', SlF (w.setCell ⟨g, k * sz + j, none⟩ u) e sz lo hi (.slice (some ⟨g, 0, none⟩) n cap) n G') ∧ Turned w (w.setCell ⟨g, k * sz + j, none⟩ u) (· = e) lo hi :=
  ⟨⟨_, h.set hk hj u⟩, h.turnSet (by omega) _ u⟩

theorem sl_at {w : World} {e sz lo hi n : Nat} {v : Value} {G : Nat → Nat → Value} (h : SlF w e sz lo hi v n G) {k : Nat} (hk : k < n) : ∃ g cap, v = .slice (some ⟨g, 0, none⟩) n cap ∧ g < w.heap.size ∧ (∀ j, j < sz → w.cell? ⟨g, k * sz + j, none⟩ = some (G k j)) ∧ ∀ i, w.frozen? ⟨g, i, none⟩ = false := by
  obtain ⟨ao, cap, rfl, h0 | ⟨g, m, f, rfl, h1, h1', h2, h3, h4⟩⟩ := h
  · omega
  · refine ⟨g, cap, rfl, h3.lt, fun j hj => ?_, fun i => h3.frozen i⟩
    have : k * sz + j < m := by
      have := Nat.mul_le_mul_right sz (show k + 1 ≤ n from hk)
      rw [Nat.add_mul, Nat.one_mul] at this
      omega
    rw [h3.cell this, h4 k hk j hj]

end Go.Proofs.Ytlpopfhaephfaaa

namespace Go.Proofs.Ytlpopfhaephfaaa
open Go.RowKit

theorem dnAt {w : World} {lo hi : Nat} {v : Value} {m ns nd k : Nat} {C : Nat → Int} {B : Nat → Bool} {X : Nat → Nat → Sec} {D : Nat → Nat → Bool} (h : DnF w lo hi v m ns nd C B X D) (hk : k < m) : ∃ g c u1 u2 lo' hi', v = .slice (some ⟨g, 0, none⟩) m c ∧ w.cell? ⟨g, k * 4, none⟩ = some (.int .i64 (C k)) ∧ w.cell? ⟨g, k * 4 + 1, none⟩ = some (.bool (B k)) ∧ w.cell? ⟨g, k * 4 + 2, none⟩ = some u1 ∧ w.cell? ⟨g, k * 4 + 3, none⟩ = some u2 ∧ SlF w 41 5 lo' hi' u1 ns (secs (X k)) ∧ SlF w 4 1 lo' hi' u2 nd (bools (D k)) := by
  obtain ⟨A1, A2, L, ⟨ao, c, rfl, h0 | ⟨g, m', f, rfl, _, _, h2, h3, h4⟩⟩, _, _, hh⟩ := h
  · omega
  · obtain ⟨c0, c1, c2, c3⟩ := four h3 h2 hk h4
    exact ⟨g, c, _, _, _, _, rfl, c0, c1, c2, c3, (hh k hk).2.1, (hh k hk).2.2⟩

end Go.Proofs.Ytlpopfhaephfaaa

namespace Go.Proofs.Ytlpopfhaephfaaa
open Go.RowKit

set_option maxRecDepth 100000 in
set_option maxHeartbeats 8000000 in
theorem top_small (hev : EvC false) (m1 c1 : Nat) (a1 : Option Addr) (C1 : Nat → Int) (w : World) (h1 : Cod w w.heap.size a1 m1 C1) (hm1 : m1 ≤ 1048576) :
    Calls Try.prog 3 #[.slice a1 m1 c1] w fun e w' => e = .returned (.bool true) ∧ Below w.heap.size w w' := by
  have i1 : ¬ (1048576 : Int) < m1 := by omega
  have ok := dr_ok C1 m1
  obtain ⟨e1, _⟩ := drE_facts C1 m1 false
  obtain ⟨s1, s2⟩ := drS_range C1 m1
  have nl := drL_len C1 m1
  have kd := fun W hW => drawn_of hev m1 c1 a1 C1 W hW (by unfold maxLen; omega)
  unfold DrP at kd
  obtain ⟨S, eS⟩ : ∃ S, drS C1 m1 = S := ⟨_, rfl⟩
  obtain ⟨n, en⟩ : ∃ n, (drL C1 m1).length = n := ⟨_, rfl⟩
  obtain ⟨F, eF⟩ : ∃ F, fstF (drL C1 m1) = F := ⟨_, rfl⟩
  obtain ⟨T, eT⟩ : ∃ T, sndF (drL C1 m1) = T := ⟨_, rfl⟩
  obtain ⟨E, eE⟩ : ∃ E, drE C1 m1 false = E := ⟨_, rfl⟩
  rw [eS, en, eF, eT] at ok
  rw [eE] at e1
  rw [eS] at s1 s2
  rw [en] at nl
  rw [eS, en, eF, eT, eE] at kd
  obtain ⟨m, em⟩ : ∃ m, E.length = m := ⟨_, rfl⟩
  obtain ⟨P, eP⟩ : ∃ P, trP E = P := ⟨_, rfl⟩
  rw [em, eP] at kd
  rw [em] at e1
  clear eS en eF eT eE em eP
  have OK : Hid (lokZ (S : Int) n F T = 0) := ok
  have hm : m ≤ 2000 := by omega
  have SO : Hid (∀ k, stOk (S : Int) n F T true S n (runX (S : Int) n F T P k) (runD (S : Int) n F T P k) = true) := fun k => run_ok ok rfl k
  have KD : Hid _ := kd
  clear ok kd
  go_enter Try.func3, Try.ntmps3
  go_wp2_with fail
  refine (KD.out w h1).mono ?_
  rintro e w1 ⟨g, u, rfl, R1, E1, B1, _⟩
  obtain ⟨V, eV⟩ : ∃ V, w1.alloc (.cells #[.int .i64 (S : Int), .slice (gA g) n (gC g)] 25) = V := ⟨_, rfl⟩
  have lay : Box2 V w1.heap.size 25 (.int .i64 (S : Int)) (.slice (gA g) n (gC g)) := by rw [← eV]; exact Box2.lay _ _ _ _
  have row : CRow V g n F T := by rw [← eV]; exact R1.alloc _
  have evt : SlF V 45 3 w.heap.size w1.heap.size u m (evs P) := by rw [← eV]; exact E1.alloc _
  have bel : Below w.heap.size w V := by rw [← eV]; exact below_alloc B1 _
  obtain ⟨lb, elb⟩ : ∃ lb, w1.heap.size = lb := ⟨_, rfl⟩
  rw [elb] at lay evt
  have EV : Hid _ := eV
  have ELB : Hid _ := elb
  have cod2 : Cod V V.heap.size a1 m1 C1 := (h1.below bel).wide bel.size
  clear R1 E1 B1 h1 elb eV
  go_wp2_with fail
  rw [EV.out, ELB.out]
  refine (KD.out V cod2).mono ?_
  rintro _ w2 ⟨g2, u2, rfl, _, E2, B2, _⟩
  obtain ⟨V2, eV2⟩ : ∃ V2, w2.alloc (.cells #[.int .i64 (S : Int), .slice (gA g2) n (gC g2)] 25) = V2 := ⟨_, rfl⟩
  have bV2 : Below V.heap.size V V2 := by rw [← eV2]; exact below_alloc B2 _
  have evt2 : SlF V2 45 3 V.heap.size w2.heap.size u2 m (evs P) := by rw [← eV2]; exact E2.alloc _
  have EV2 : Hid _ := eV2
  obtain ⟨y0, y1⟩ := (lay.on B2).cells
  have ly := (lay.on B2).lt
  have lay := lay.on bV2
  have row := row.on bV2
  have evt := evt.on bV2
  have bel := below_on bel bV2
  clear EV ELB cod2 E2 B2 eV2 KD bV2
  go_wp2_with fail
  rw [EV2.out]
  refine (specRun_ok (S : Int) g n _ _ m S F T P _ V2 row evt2 OK.out rfl hm).mono ?_
  rintro _ w3 ⟨r1, rfl, A1, b3⟩
  have lay := lay.on b3
  have row := row.on b3
  have evt := evt.on b3
  have evt2 := evt2.on b3
  have bel := below_on bel b3
  have sz3 := b3.size
  have szw3 := bel.size
  clear y0 y1 ly EV2
  obtain ⟨y0, y1⟩ := lay.cells
  have ly := lay.lt
  go_wp2_with fail
  refine (implRun_ok (S : Int) g n _ _ m S F T P _ w3 row evt OK.out rfl hm).mono ?_
  rintro _ w4 ⟨r2, rfl, A2, b4⟩
  have lay := lay.on b4
  have row := row.on b4
  have evt := evt.on b4
  have evt2 := evt2.on b4
  have A1 := A1.on b4
  have bel := below_on bel b4
  clear y0 y1 ly b3
  go_wp2_with fail
  refine (wDone_same _ _ _ _ m S n _ _ _ _ _ _ w4 (by omega) (by omega) (by omega) A2 A1).mono ?_
  rintro _ w5 ⟨rfl, b5⟩
  have lay := lay.on b5
  have row := row.on b5
  have evt := evt.on b5
  have evt2 := evt2.on b5
  have A1 := A1.on b5
  have A2 := A2.on b5
  have bel := below_on bel b5
  go_wp2_with fail
  refine (wEvents_same _ _ _ _ m _ _ P w5 (by omega) evt evt2).mono ?_
  rintro _ w6 ⟨rfl, b6⟩
  have lay := lay.on b6
  have row := row.on b6
  have evt := evt.on b6
  have A1 := A1.on b6
  have A2 := A2.on b6
  have bel := below_on bel b6
  have szb := bel.size
  have sz4 := b4.size
  have sz5 := b5.size
  have sz6 := b6.size
  obtain ⟨lo, elo⟩ : ∃ lo, w3.heap.size = lo := ⟨_, rfl⟩
  obtain ⟨hi, ehi⟩ : ∃ hi, w4.heap.size = hi := ⟨_, rfl⟩
  obtain ⟨lo1, elo1⟩ : ∃ lo, V2.heap.size = lo := ⟨_, rfl⟩
  rw [elo, ehi] at A2
  rw [elo1, elo] at A1
  have hwlo : w.heap.size ≤ lo := by omega
  have hlo1 : lo ≤ w6.heap.size := by omega
  clear szb sz3 szw3 sz4 sz5 sz6 elo ehi elo1 b4 b5 b6 evt2
  obtain ⟨Q1, Q2, L, SL, hL0, hLm, hh⟩ := A2
  have HL : Hid (∀ i, i < m → L i ≤ L (i + 1)) := fun i hi => (hh i hi).1
  have I0 : TopI w6 w6 lo hi m S n 0 Q1 Q2 L (fun k => runX (S : Int) n F T P (k + 1)) (fun k => runD (S : Int) n F T P (k + 1)) := ⟨Turned.refl _ _ _ _, fun j _ hj => (hh j hj).2⟩
  obtain ⟨ag, cg, eg, sl0⟩ := id SL
  subst eg
  obtain ⟨_, _, _, ⟨aw, cw, ew, _⟩, _⟩ := id A1
  subst ew
  have SLH : Hid _ := SL
  have A1H : Hid _ := A1
  have LAY : Hid _ := lay
  have ROW : Hid _ := row
  have EVT : Hid _ := evt
  have BEL : Hid _ := bel
  have HL0 : Hid _ := hL0
  have HLM : Hid _ := hLm
  clear hh SL A1 lay row evt bel hL0 hLm
  go_wp2
  go_loopw [43] (fun i wr => ∃ k : Nat, k ≤ m ∧ i = .int .i64 k ∧ TopI w6 wr lo hi m S n k Q1 Q2 L (fun k => runX (S : Int) n F T P (k + 1)) (fun k => runD (S : Int) n F T P (k + 1))) (fun i _ => m - (intOf i).toNat)
  case atStart => exact ⟨0, Nat.zero_le _, rfl, I0⟩
  case round =>
    clear I0
    obtain ⟨k, hk, rfl, I⟩ := hrel
    have dn : SlF wr 39 4 lo hi (.slice ag m cg) m _ := SlF.turned SLH.out I.1 (.inl (by unfold isSt; decide))
    have la : Box2 wr lb 25 _ _ := Box2.turned LAY.out I.1 (.inl (by unfold isSt; decide))
    have ro : CRow wr g n F T := CRow.turned ROW.out I.1 (by unfold isSt; decide)
    by_cases hlt : k < m
    · have hi1 : (k : Int) < (m : Int) := by omega
      obtain ⟨y0, y1⟩ := la.cells
      have ly := la.lt
      obtain ⟨ag', cg', eg, h0 | ⟨gd, md, fd, rfl, _, _, d2, d3, d4⟩⟩ := id dn
      · omega
      cases eg
      obtain ⟨c0, c1', c2, c3⟩ := four d3 d2 hlt d4
      obtain ⟨sS, sB⟩ := I.2 k (Nat.le_refl _) hlt
      obtain ⟨as1, cs1, es1, _⟩ := id sS
      obtain ⟨ab1, cb1, eb1, _⟩ := id sB
      rw [es1] at c2
      rw [eb1] at c3
      have st : StF wr (L k) (L (k + 1)) (.agg #[.bool true, .slice as1 S cs1, .slice ab1 n cb1]) true S n (runX (S : Int) n F T P (k + 1)) (runD (S : Int) n F T P (k + 1)) := ⟨_, _, rfl, by rw [← es1]; exact sS, by rw [← eb1]; exact sB⟩
      have ce : ∀ dd os, _ := fun dd os => Calls.regrown_of (implStateOk_main (S : Int) g n _ _ F T _ S _ _ (Sort.grow (redrawn wr dd) os) (ro.on (below_regrown wr dd os)) (st.on (below_regrown wr dd os)) OK.out rfl)
      simp only [SO.out (k + 1)] at ce
      have kc1 := cell_regrown c1'
      have kc2 := cell_regrown c2
      have kc3 := cell_regrown c3
      have ky0 := cell_regrown y0
      have ky1 := cell_regrown y1
      have IH : Hid _ := I
      have DN : Hid (Blk wr gd 39 md fd ∧ m * 4 ≤ md) := ⟨d3, d2⟩
      have D4 : Hid _ := d4
      clear st sS sB c0 c1' c2 c3 y0 y1 I dn la ro d3 d4 d2
      go_upto_region 12 with fail
      refine wp_region_quiet_below (by kernel_rfl) (by kernel_rfl) ?_
      repeat (go_big_quiet_step (first | with_reducible exact ce _ _))
      refine wpQuiet_nil ?_
      intro _ hw'
      obtain ⟨⟨dq, osq⟩, hw''⟩ := hw'
      have hBq := below_regrown wr dq osq
      subst hw''
      replace kc2 := kc2 dq osq
      clear ce kc1 kc3 ky0 ky1
      generalize Sort.grow (redrawn wr dq) osq = wq at *
      have IQ := TopI.on IH.out hBq
      have DQ : Hid (Blk wq gd 39 md fd) := Blk.on DN.out.1 hBq
      obtain ⟨sS, sB⟩ := IQ.2 k (Nat.le_refl _) hlt
      rw [es1] at sS
      rw [eb1] at sB
      have IQH : Hid _ := IQ
      have SB : Hid _ := sB
      have J0 : ∃ G, SlF wq 41 5 (L k) (L (k + 1)) (.slice as1 S cs1) S G := ⟨_, sS⟩
      have e4 := fun wx (hB : Blk wx gd 39 md fd) => four hB DN.out.2 hlt D4.out
      rw [es1, eb1] at e4
      have E4 : Hid _ := e4
      clear hBq IH IQ sS sB e4 kc2
      have c2 := (E4.out wq DQ.out).2.2.1
      go_wp2
      clear c2
      go_loopw [61] (fun i wx => ∃ s : Nat, s ≤ S ∧ i = .int .i64 s ∧ (∃ G, SlF wx 41 5 (L k) (L (k + 1)) (.slice as1 S cs1) S G) ∧ Turned wq wx (· = 41) (L k) (L (k + 1))) (fun i _ => S - (intOf i).toNat)
      case atStart => exact ⟨0, Nat.zero_le _, rfl, J0, Turned.refl _ _ _ _⟩
      case round =>
        clear J0
        rename World => wx
        obtain ⟨s, hs, rfl, ⟨G, sG⟩, tG⟩ := hrel
        have DX : Hid (Blk wx gd 39 md fd) := Blk.turned DQ.out tG (.inl (by decide))
        by_cases hls : s < S
        · have hi2 : (s : Int) < (S : Int) := by omega
          have c2 := (E4.out wx DX.out).2.2.1
          obtain ⟨gs, cs, e, lgs, xc, xf⟩ := sl_at sG hls
          cases e
          have x1 := xc 1 (by omega)
          have f1 := xf (s * 5 + 1)
          have ST : Hid _ := any_set sG hls (j := 1) (by omega) (.int .i64 77)
          have TG : Hid _ := tG
          clear xc xf sG tG
          go_wp2
          go_roundw
          case rel => exact ⟨s + 1, by omega, by go_num, ST.out.1, Turned.trans TG.out ST.out.2⟩
          case measure => simp [intOf]; omega
        · have hss : s = S := by omega
          subst hss
          have c3 := (E4.out wx DX.out).2.2.2
          have TX := (Turned.st tG)
          have sB : SlF wx 4 1 (L k) (L (k + 1)) (.slice ab1 n cb1) n (bools (runD (s : Int) n F T P (k + 1))) := SlF.turned SB.out tG (.inl (by decide))
          have J1 : ∃ G, SlF wx 4 1 (L k) (L (k + 1)) (.slice ab1 n cb1) n G := ⟨_, sB⟩
          clear sG tG sB SB
          go_wp2
          clear c3
          go_loopw [81] (fun i wy => ∃ t : Nat, t ≤ n ∧ i = .int .i64 t ∧ (∃ G, SlF wy 4 1 (L k) (L (k + 1)) (.slice ab1 n cb1) n G) ∧ Turned wq wy isSt (L k) (L (k + 1))) (fun i _ => n - (intOf i).toNat)
          case atStart => exact ⟨0, Nat.zero_le _, rfl, J1, TX⟩
          case round =>
            clear J1 TX DX
            rename World => wy
            obtain ⟨t, ht, rfl, ⟨G, sG⟩, tG⟩ := hrel
            have DX : Hid (Blk wy gd 39 md fd) := Blk.turned DQ.out tG (.inl (by unfold isSt; decide))
            by_cases hlt2 : t < n
            · have hi2 : (t : Int) < (n : Int) := by omega
              have c3 := (E4.out wy DX.out).2.2.2
              obtain ⟨gs, cs, e, lgs, xc, xf⟩ := sl_at sG hlt2
              cases e
              have x1 := xc 0 (by omega)
              simp only [Nat.mul_one, Nat.add_zero] at x1
              have f1 := xf t
              have st := any_set sG hlt2 (j := 0) (by omega) (.bool true)
              simp only [Nat.mul_one, Nat.add_zero] at st
              have ST : Hid _ := st
              have TG : Hid _ := tG
              clear xc xf sG tG st
              go_wp2
              go_roundw
              case rel => exact ⟨t + 1, by omega, by go_num, ST.out.1, Turned.trans TG.out (Turned.sb ST.out.2)⟩
              case measure => simp [intOf]; omega
            · have htn : t = n := by omega
              subst htn
              have IN := TopI.next IQH.out hlt HL.out HL0.out HLM.out tG
              have w1 : DnF wy lo1 lo (.slice aw m cw) m s t _ _ _ _ := DnF.turned A1H.out IN.1 (.inr (.inr (Nat.le_refl _)))
              have INH : Hid _ := IN
              by_cases hk1 : k + 1 < m
              · have hi3 : (k : Int) + 1 < (m : Int) := by omega
                obtain ⟨_, c1', c2, c3⟩ := four DX.out DN.out.2 hk1 D4.out
                obtain ⟨gw, kw, u1, u2, lo2, hi2, ew, d0, d1, d2, d3, wS, wB⟩ := dnAt w1 hk1
                cases ew
                obtain ⟨sS, sB⟩ := IN.2 (k + 1) (Nat.le_refl _) hk1
                have st : StF wy (L (k + 1)) (L (k + 1 + 1)) (.agg #[.bool true, Q1 (k + 1), Q2 (k + 1)]) true s t (runX (s : Int) t F T P (k + 1 + 1)) (runD (s : Int) t F T P (k + 1 + 1)) := ⟨_, _, rfl, sS, sB⟩
                have st' : StF wy lo2 hi2 (.agg #[.bool true, u1, u2]) true s t (runX (s : Int) t F T P (k + 1 + 1)) (runD (s : Int) t F T P (k + 1 + 1)) := ⟨_, _, rfl, wS, wB⟩
                have ce : ∀ dd os, _ := fun dd os => Calls.regrown_of (wState_same _ _ _ _ s t _ _ true _ _ _ _ (Sort.grow (redrawn wy dd) os) (by omega) (by omega) (st.on (below_regrown wy dd os)) (st'.on (below_regrown wy dd os)) (fun _ _ => rfl) (fun _ _ => rfl))
                have kc1 := cell_regrown c1'
                have kc2 := cell_regrown c2
                have kc3 := cell_regrown c3
                have kd1 := cell_regrown d1
                have kd2 := cell_regrown d2
                have kd3 := cell_regrown d3
                clear st st' sS sB wS wB c1' c2 c3 d0 d1 d2 d3 w1 IN sG tG
                go_upto_region 24 with fail
                refine wp_region_quiet_below (by kernel_rfl) (by kernel_rfl) ?_
                repeat (go_big_quiet_step (first | with_reducible exact ce _ _))
                refine wpQuiet_nil ?_
                intro _ hw'
                obtain ⟨⟨dz, osz⟩, hw''⟩ := hw'
                have hBz := below_regrown wy dz osz
                subst hw''
                clear ce kc1 kc2 kc3 kd1 kd2 kd3
                generalize Sort.grow (redrawn wy dz) osz = wz at *
                go_wp2
                go_roundw
                case rel => exact ⟨k + 1, by omega, by go_num, TopI.on INH.out hBz⟩
                case measure => simp [intOf]; omega
              · have hi3 : ¬ (k : Int) + 1 < (m : Int) := by omega
                clear w1 IN sG tG
                go_upto_region 24 with fail
                refine wp_region_quiet_below (by kernel_rfl) (by kernel_rfl) ?_
                repeat (go_big_quiet_step (fail))
                refine wpQuiet_nil ?_
                intro _ hw'
                obtain ⟨⟨dz, osz⟩, hw''⟩ := hw'
                have hBz := below_regrown wy dz osz
                subst hw''
                generalize Sort.grow (redrawn wy dz) osz = wz at *
                go_wp2
                go_roundw
                case rel => exact ⟨k + 1, by omega, by go_num, TopI.on INH.out hBz⟩
                case measure => simp [intOf]; omega
    · have hkm : k = m := by omega
      subst hkm
      obtain ⟨y0, y1⟩ := la.cells
      have ly := la.lt
      have ev : SlF wr 45 3 w.heap.size _ u k (evs P) := SlF.turned EVT.out I.1 (.inl (by unfold isSt; decide))
      have w1 : DnF wr lo1 lo (.slice aw k cw) k S n _ _ _ _ := DnF.turned A1H.out I.1 (.inr (.inr (Nat.le_refl _)))
      have FIN : Below w.heap.size w wr := Below.trans BEL.out (Turned.below I.1 hwlo (Below.size BEL.out))
      have kr := implRun_ok (S : Int) g n _ _ k S F T P _ wr ro ev OK.out rfl hm
      have W1 : Hid _ := w1
      have FINH : Hid _ := FIN
      clear I dn la ro ev w1 FIN
      go_wp2_with fail
      refine kr.mono ?_
      rintro _ w7 ⟨r7, rfl, A7, b7⟩
      go_wp2_with fail
      refine (wDone_same _ _ _ _ k S n _ _ _ _ _ _ w7 (by omega) (by omega) (by omega) A7 (DnF.on W1.out b7)).mono ?_
      rintro _ w8 ⟨rfl, b8⟩
      go_wp2
      go_ret
      exact ⟨rfl, below_on (below_on FINH.out b7) b8⟩

end Go.Proofs.Ytlpopfhaephfaaa

namespace Go.Proofs.Ytlpopfhaephfaaa
open Go.RowKit

theorem ev_false : EvC false := events_false
theorem drawn_false (m cap : Nat) (ao : Option Addr) (C : Nat → Int) (w : World) (hc : Cod w w.heap.size ao m C) (hm : m ≤ maxLen) :
    Calls Try.prog 11 #[.slice ao m cap, .bool false] w fun e w' => ∃ g u, e = .returned (.tuple #[.agg #[.int .i64 (drS C m : Int), .slice (gA g) (drL C m).length (gC g)], u]) ∧ DrP w w' C m false g u := drawn_of ev_false m cap ao C w hc hm

end Go.Proofs.Ytlpopfhaephfaaa

namespace Go.Proofs.Ytlpopfhaephfaaa
open Go.ChangeShapes Go.WideShapes Go.ChangeAt Go.RowKit Go.Joins

theorem Try.ownD : ownKnob Try.prog.godebug = none := by kernel_rfl
theorem Try.laidD : laidOutB Try.prog = true := by kernel_rfl
theorem Try.cellsU8 : Try.prog.cellsOf 5 = 1 := by kernel_rfl

theorem u8_wf {n : Int} (h : (Lit.int .u8 n).wf = true) : 0 ≤ n ∧ n < 256 := by
  unfold Lit.wf at h
  simp only [Bool.and_eq_true, decide_eq_true_eq] at h
  have h1 : IntKind.u8.min = 0 := by decide
  have h2 : IntKind.u8.max = 255 := by decide
  rw [h1, h2] at h
  omega

theorem cod_of_trod {H : Type} {enc : TypeId × Value → H} {W : World} {base : Nat} {spare : Nat → Bool} {held : Bool} {fuel : Nat} {c : Value} {x : DataW H × List MemPlace} (h : DataW.trod enc Try.prog W base spare held fuel 22 [c] = some x) :
    ∃ (ao : Option Addr) (n cap : Nat) (C : Nat → Int), c = .slice ao n cap ∧ n ≤ maxLen ∧ Cod W W.heap.size ao n C := by
  rcases open_ints Try.underlying22 Try.underlying5 Try.cellsU8 h with ⟨hc, _⟩ | ⟨a, len, cap, zs, hc, _, hl, hm, hz, _, hcell, hwf⟩
  · simp only [List.cons.injEq, and_true] at hc
    exact ⟨none, 0, 0, fun _ => 0, hc, Nat.zero_le _, .inl rfl⟩
  · simp only [List.cons.injEq, and_true] at hc
    refine ⟨some a, len, cap, fun i => zs.getD i 0, hc, Nat.le_trans hl hm, ?_⟩
    have hlz : len ≤ zs.length := by rw [hz]; split <;> omega
    rcases Nat.eq_zero_or_pos len with h0 | h0
    · exact .inl h0
    · right
      obtain ⟨b, off, spot⟩ := a
      have hs : spot = none := by simpa [Addr.add] using World.cell?_spot (hcell 0 (by omega))
      subst hs
      refine ⟨b, off, rfl, ?_, fun i hi => ⟨?_, ?_⟩⟩
      · have := World.block_lt_of_cell? W _ (hcell 0 (by omega))
        simpa [Addr.add] using this
      · have := hcell i (by omega)
        have e : (⟨b, off, none⟩ : Addr).add i = ⟨b, off + i, none⟩ := by simp [Addr.add]
        rw [e] at this
        exact this
      · have hi' : i < zs.length := by omega
        have e : zs.getD i 0 = zs[i] := by rw [List.getD_eq_getElem?_getD, List.getElem?_eq_getElem hi']; rfl
        show 0 ≤ zs.getD i 0 ∧ zs.getD i 0 < 256
        rw [e]
        exact u8_wf (hwf _ (List.getElem_mem hi'))

theorem cod_of {H : Type} {enc : TypeId × Value → H} {W : World} {base : Nat} {spare : Nat → Bool} {held : Bool} {ao : Option Addr} {n cap : Nat} {d : DataW H} {p : List MemPlace} (h : DataW.Trod enc Try.prog W base spare held 22 (.slice ao n cap) d p) :
    n ≤ maxLen ∧ ∃ C, Cod W W.heap.size ao n C := by
  obtain ⟨fuel, hf⟩ := h
  obtain ⟨ao', n', cap', C, e, hm, hc⟩ := cod_of_trod (c := .slice ao n cap) hf
  simp only [Value.slice.injEq] at e
  obtain ⟨rfl, rfl, rfl⟩ := e
  exact ⟨hm, C, hc⟩

end Go.Proofs.Ytlpopfhaephfaaa

namespace Go.Proofs.Ytlpopfhaephfaaa
open Go.ChangeShapes Go.WideShapes Go.ChangeAt Go.RowKit Go.Joins

set_option maxRecDepth 100000 in
theorem fnTop_great (m1 c1 : Nat) (a1 : Option Addr) (w : World) (h1 : 1048576 < m1) :
    Calls Try.prog 3 #[.slice a1 m1 c1] w fun e w' => e = .returned (.bool true) ∧ Below w.heap.size w w' := by
  have i1 : (1048576 : Int) < m1 := by omega
  go_enter Try.func3, Try.ntmps3
  go_wp2
  go_ret
  exact ⟨rfl, Below.refl _ _⟩

theorem fnTop_all (m1 c1 : Nat) (a1 : Option Addr) (C1 : Nat → Int) (w : World) (h1 : Cod w w.heap.size a1 m1 C1) :
    Calls Try.prog 3 #[.slice a1 m1 c1] w fun e w' => e = .returned (.bool true) ∧ Below w.heap.size w w' := by
  by_cases h : 1048576 < m1
  · exact fnTop_great m1 c1 a1 w h
  · exact top_small ev_false m1 c1 a1 C1 w h1 (by omega)

set_option maxRecDepth 100000 in
theorem fnTop_lifted (os : Os) (started : os.Started) (H : Type) (enc : TypeId × Value → H) :
    ReturnsInHanded {} Try.checked os 3 .any (Rows.fnTopSpec.pre6 enc Try.prog Try.f3 Rows.fnTopRow.domain false) (Rows.fnTopSpec.post enc Try.prog Try.f3 false true false false) := by
  refine returnsInHanded_of_change (C := Try.checked) Try.ownD started (by kernel_rfl) Try.func3
    (ChangeSpec.witness6 (enc := enc) (C := Try.checked) false ⟨#[], #[.slice none 0 0], []⟩ 8 (by kernel_rfl) (by kernel_rfl) (by kernel_rfl) (by kernel_rfl)) ?_
  intro W base args ds gs before hval0 hW hcnd _
  have hval : ∀ (j : Nat) t v, Try.f3.params[j]? = some t → args[j]? = some v → Value.okWide Try.prog W .any base t v := hval0
  have hW' := hW
  obtain ⟨p, q, hA0, hV, rfl, hfz, hnd⟩ := hW
  have hA : DataW.TrodAll enc Try.prog W 0 (fun _ => true) true Try.f3.params.toList args.toList ds p := hA0
  rw [Try.params3] at hA hval
  obtain ⟨v0, d0, rfl, rfl, h0⟩ := trodAll_one hA
  obtain ⟨rfl, rfl⟩ := trodVars_none hV
  have hlt : ∀ x ∈ p, x.block < W.heap.size := fun x hx => by simpa using hW'.lt x (by simp [hx])
  obtain ⟨a1, m1, c1, rfl⟩ := okWide_slice Try.underlying22 (hval 0 22 v0 rfl rfl)
  obtain ⟨_, C1, hc1⟩ := cod_of h0
  clear hA0 hval0
  simp only [List.append_nil] at hW'
  refine (fnTop_all m1 c1 a1 C1 W hc1).mono fun e W' ⟨he, hb⟩ => ?_
  subst he
  refine ⟨_, rfl, _, _, _, [], p, [], hW', ?_, ?_, rfl, hb.frame _, fun h => by cases h⟩
  · exact trodAll_mk1 (shut_bool Try.underlying4 true)
  · exact trodAll_mk1 (Below.trod Try.laidD (by kernel_rfl) (of_decide_eq_true (by kernel_rfl)) h0 hb hlt)

theorem fnTop_holds : Rows.FnTopSaid :=
  OpenClaim.holds_of_wide 3 Try.f3 rfl rfl rfl rfl rfl rfl rfl ⟨rfl, rfl, rfl, rfl, rfl⟩ rfl rfl rfl rfl rfl (by kernel_rfl) Try.func3 (by kernel_rfl)
    (of_decide_eq_true (by kernel_rfl)) (by unfold Func.isWrapper; first | (rw [if_pos (by decide +kernel)]; kernel_rfl) | (rw [if_neg (by decide +kernel)]; exact ⟨rfl, rfl⟩))
    (fun os started H enc _ => fnTop_lifted os started H enc)

#print axioms fnTop_holds

end Go.Proofs.Ytlpopfhaephfaaa
