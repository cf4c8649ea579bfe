import Derived.Test.YtlpopfhaephfaaaP4
import Derived.Test.YtlpopfhaephfaaaW6
namespace Go.Proofs.Ytlpopfhaephfaaa
open Go.RowKit Go.Sort

open Classical in
theorem ascend_none (ao : Option Addr) (cap : Nat) (Z : Nat → Int) (w : World) :
    Calls Try.prog 106 #[.slice ao 0 cap] w fun e w' => e = .returned (.bool (decide (Asc 0 Z))) ∧ Below w.heap.size w w' := by
  have e1 : decide (Asc 0 Z) = true := decide_eq_true fun i hi => by omega
  rw [e1]
  go_enter Try.func106, Try.ntmps106
  go_wp2
  refine wp_loop_rounds 1 ?_
  rw [rounds_succ]
  go_wp2
  go_ret
  exact ⟨rfl, Below.refl _ _⟩

open Classical in
theorem ascend_any (b n : Nat) (v : Value) (Z : Nat → Int) (w : World) (hn : n ≤ 1048576) (h : IntF w b v n Z) :
    Calls Try.prog 106 #[v] w fun e w' => e = .returned (.bool (decide (Asc n Z))) ∧ Below w.heap.size w w' := by
  obtain ⟨ao, cap, rfl, h0⟩ := h
  rcases Nat.eq_zero_or_pos n with rfl | hp
  · exact ascend_none _ _ _ _
  · rcases h0 with h0 | ⟨g, m, f, rfl, _, h2, h3, h4⟩
    · omega
    · exact ascend_some g m n cap f Z w hn h3 h2 h4

/-- posts that are right, in a layout of n counters -/
def postOk (n : Nat) (P : Nat → Nat → Int) (i : Nat) : Prop := okAt (fun i => P i 0) i ∧ (0 ≤ P i 1 ∧ P i 1 < (n : Int)) ∧ (P i 2 = 1 ∨ P i 2 = -1)
def PostsV (n nP : Nat) (P : Nat → Nat → Int) : Prop := nP ≤ 120 ∧ ∀ i, i < nP → postOk n P i
def AxlesV (nA : Nat) (Z : Nat → Int) : Prop := nA ≤ 200 ∧ Asc nA Z

open Classical in
set_option maxHeartbeats 1000000 in
theorem l1axles_any (g n : Nat) (Z : Nat → Int) (w : World) (hn : n ≤ 1048576) (h1 : Blk w g 3 n (fun i => .int .i64 (Z i))) :
    Calls Try.prog 79 #[.slice (some ⟨g, 0, none⟩) n n] w fun e w' => e = .returned (.bool (decide (AxlesV n Z))) ∧ Below w.heap.size w w' := by
  go_enter Try.func79, Try.ntmps79
  go_wp2
  go_loopw [3, 8] (fun q i wr => ∃ k : Nat, k ≤ n ∧ i = .int .i64 k ∧ q = .int .i64 (prevZ Z k) ∧ Below w.heap.size w wr ∧ ∀ i, i < k → okAt Z i) (fun _ i _ => n - (intOf i).toNat)
  case atStart => exact ⟨0, Nat.zero_le _, rfl, rfl, Below.refl _ _, fun i hi => by omega⟩
  case round =>
    obtain ⟨k, hk, rfl, rfl, hbel, hgood⟩ := hrel
    have HG : Hid (∀ i, i < k → okAt Z i) := hgood
    clear hgood
    by_cases hlt : k < n
    · have c0 : wr.cell? ⟨g, k, none⟩ = some (.int .i64 (Z k)) := (h1.below hbel h1.lt).cell hlt
      obtain ⟨q, hq⟩ : ∃ q, prevZ Z k = q := ⟨_, rfl⟩
      obtain ⟨x, hx⟩ : ∃ x, Z k = x := ⟨_, rfl⟩
      have HQ : Hid (prevZ Z k = q) := hq
      have HX : Hid (Z k = x) := hx
      have HS : Hid (prevZ Z (k + 1) = x) := by show prevZ Z (k + 1) = x; rw [prev_succ]; exact hx
      rw [hx] at c0
      rw [hq]
      clear h1 hq hx
      rcases (show x < q ∨ (q ≤ x ∧ 1000000 < x) ∨ (q ≤ x ∧ x ≤ 1000000) by omega) with a1 | ⟨a1, a2⟩ | ⟨a1, a2⟩
      · have HN : Hid (decide (AxlesV n Z) = false) := by
          refine decide_eq_false fun hA => ?_
          have := hA.2 k hlt
          unfold okAt at this
          rw [HQ.out, HX.out] at this
          omega
        go_wp2
        go_ret
        exact ⟨by rw [HN.out]; rfl, hbel⟩
      · have HN : Hid (decide (AxlesV n Z) = false) := by
          refine decide_eq_false fun hA => ?_
          have := hA.2 k hlt
          unfold okAt at this
          rw [HQ.out, HX.out] at this
          omega
        have a3 : decide (x ≤ 1000000) = false := by simp; omega
        go_wp2
        go_ret
        exact ⟨by rw [HN.out]; rfl, hbel⟩
      · have a3 : decide (x ≤ 1000000) = true := by simp; omega
        go_wp2
        go_roundw
        case rel =>
          refine ⟨k + 1, by omega, by go_num, by rw [HS.out], hbel, fun i hi => ?_⟩
          rcases (show i < k ∨ i = k by omega) with h' | rfl
          · exact HG.out i h'
          · unfold okAt; rw [HQ.out, HX.out]; exact ⟨a1, a2⟩
        case measure => simp [intOf]; omega
    · have HN : Hid (decide (AxlesV n Z) = decide ((n : Int) ≤ 200)) := decide_eq_decide.2 ⟨fun h => by have := h.1; omega, fun h => ⟨by omega, fun i hi => HG.out i (by omega)⟩⟩
      go_wp2
      go_ret
      exact ⟨by rw [HN.out]; rfl, hbel⟩

open Classical in
set_option maxHeartbeats 2000000 in
theorem l1posts_any (S : Int) (g n gp nP : Nat) (P : Nat → Nat → Int) (w : World) (hn : n ≤ 120) (hp : nP ≤ 1048576) (hP : Row w gp 103 3 nP (ints P)) :
    Calls Try.prog 78 #[.agg #[.int .i64 S, .slice (some ⟨g, 0, none⟩) n n], .slice (some ⟨gp, 0, none⟩) nP nP] w fun e w' => e = .returned (.bool (decide (PostsV n nP P))) ∧ Below w.heap.size w w' := by
  have hgp := hP.lt
  go_enter Try.func78, Try.ntmps78
  go_wp2
  go_loopw [5, 10] (fun q i wr => ∃ k : Nat, k ≤ nP ∧ i = .int .i64 k ∧ q = .int .i64 (prevZ (fun i => P i 0) k) ∧ Below (w.heap.size + 1) (w.alloc (.cells #[.int .i64 S, .slice (some ⟨g, 0, none⟩) n n] 25)) wr ∧ ∀ i, i < k → postOk n P i) (fun _ i _ => nP - (intOf i).toNat)
  case atStart => exact ⟨0, Nat.zero_le _, rfl, rfl, Below.refl _ _, fun i hi => by omega⟩
  case round =>
    obtain ⟨k, hk, rfl, rfl, hbel, hgood⟩ := hrel
    have HG : Hid (∀ i, i < k → postOk n P i) := hgood
    have HBel : Hid (Below (w.heap.size + 1) (w.alloc (.cells #[.int .i64 S, .slice (some ⟨g, 0, none⟩) n n] 25)) wr) := hbel
    have hB : Below w.heap.size w wr := (show Below w.heap.size w _ from (by repeat (first | exact Below.refl _ _ | assumption | refine below_alloc ?_ _ | refine Below.setCell ?_ (by first | omega | (simp; done) | (simp; omega)) _ | refine Below.alloc ?_ (by first | omega | (simp; done) | (simp; omega)) _ | refine Below.drew ?_))).trans (hbel.mono (by first | omega | (simp; done) | (simp; omega)))
    have HB : Hid (Below w.heap.size w wr) := hB
    have hsz : w.heap.size < wr.heap.size := by have := hbel.size; simp at this; omega
    have cL : wr.cell? ⟨w.heap.size, 1, none⟩ = some (.slice (some ⟨g, 0, none⟩) n n) := (hbel.cell (p := ⟨w.heap.size, 1, none⟩) (by first | omega | (simp; done) | (simp; omega))).trans (by simp)
    clear hgood
    by_cases hlt : k < nP
    · have R := hP.below hB hgp
      have c0 : wr.cell? ⟨gp, k * 3, none⟩ = some (.int .i64 (P k 0)) := R.cell0 hlt (by omega)
      have c1 : wr.cell? ⟨gp, k * 3 + 1, none⟩ = some (.int .i64 (P k 1)) := R.cell (j := 1) hlt (by omega)
      have c2 : wr.cell? ⟨gp, k * 3 + 2, none⟩ = some (.int .i64 (P k 2)) := R.cell (j := 2) hlt (by omega)
      have hgl : gp < wr.heap.size := R.lt
      obtain ⟨q, hq⟩ : ∃ q, prevZ (fun i => P i 0) k = q := ⟨_, rfl⟩
      obtain ⟨x, hx⟩ : ∃ x, P k 0 = x := ⟨_, rfl⟩
      obtain ⟨y, hy⟩ : ∃ y, P k 1 = y := ⟨_, rfl⟩
      obtain ⟨z, hz⟩ : ∃ z, P k 2 = z := ⟨_, rfl⟩
      have HQ : Hid (prevZ (fun i => P i 0) k = q) := hq
      have HX : Hid (P k 0 = x ∧ P k 1 = y ∧ P k 2 = z) := ⟨hx, hy, hz⟩
      have HS : Hid (prevZ (fun i => P i 0) (k + 1) = x) := by show prevZ _ (k + 1) = x; rw [prev_succ]; exact hx
      rw [hx] at c0
      rw [hy] at c1
      rw [hz] at c2
      rw [hq]
      clear hP R hq hx hy hz hbel hB
      have bad : ¬ (q ≤ x ∧ x ≤ 1000000 ∧ 0 ≤ y ∧ y < (n : Int) ∧ (z = 1 ∨ z = -1)) → Hid (decide (PostsV n nP P) = false) := fun hb => by
        refine decide_eq_false fun hA => hb ?_
        have := hA.2 k hlt
        unfold postOk okAt at this
        simp only [HQ.out, HX.out.1, HX.out.2.1, HX.out.2.2] at this
        omega
      rcases (show x < q ∨ (q ≤ x ∧ 1000000 < x) ∨ (q ≤ x ∧ x ≤ 1000000 ∧ y < 0) ∨ (q ≤ x ∧ x ≤ 1000000 ∧ 0 ≤ y ∧ (n : Int) - 1 < y) ∨ (q ≤ x ∧ x ≤ 1000000 ∧ 0 ≤ y ∧ y ≤ (n : Int) - 1 ∧ ¬ z = 1 ∧ ¬ z = -1) ∨ (q ≤ x ∧ x ≤ 1000000 ∧ 0 ≤ y ∧ y ≤ (n : Int) - 1 ∧ z = 1) ∨ (q ≤ x ∧ x ≤ 1000000 ∧ 0 ≤ y ∧ y ≤ (n : Int) - 1 ∧ z = -1) by omega) with
        a1 | ⟨a1, a2⟩ | ⟨a1, a2, a3⟩ | ⟨a1, a2, a3, a4⟩ | ⟨a1, a2, a3, a4, a5, a6⟩ | ⟨a1, a2, a3, a4, a5⟩ | ⟨a1, a2, a3, a4, a5⟩
      iterate 4
        · have HN := bad (by omega)
          clear bad
          go_wp2
          go_ret
          exact ⟨by rw [HN.out]; rfl, below_alloc HB.out _⟩
      · have HN := bad (by omega)
        have e1 : (z != 1) = true := by simpa using a5
        have e2 : (z != -1) = true := by simpa using a6
        clear bad a5 a6
        go_wp2
        go_ret
        exact ⟨by rw [HN.out]; rfl, below_alloc HB.out _⟩
      iterate 2
        · clear bad
          have hok : Hid (postOk n P k) := by
            show postOk n P k
            unfold postOk okAt
            simp only [HQ.out, HX.out.1, HX.out.2.1, HX.out.2.2]
            omega
          subst a5
          go_wp2
          go_roundw
          case rel =>
            refine ⟨k + 1, by omega, by go_num, by rw [HS.out], HBel.out.alloc (by first | omega | (simp; done) | (simp; omega)) _, fun i hi => ?_⟩
            rcases (show i < k ∨ i = k by omega) with h' | rfl
            · exact HG.out i h'
            · exact hok.out
          case measure => simp [intOf]; omega
    · have HN : Hid (decide (PostsV n nP P) = decide ((nP : Int) ≤ 120)) := decide_eq_decide.2 ⟨fun h => by have := h.1; omega, fun h => ⟨by omega, fun i hi => HG.out i (by omega)⟩⟩
      go_wp2
      go_ret
      exact ⟨by rw [HN.out]; rfl, HB.out⟩

end Go.Proofs.Ytlpopfhaephfaaa
