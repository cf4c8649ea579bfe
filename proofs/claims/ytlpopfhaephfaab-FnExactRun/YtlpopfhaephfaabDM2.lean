import Derived.Test.YtlpopfhaephfaabDM1
namespace Go.Proofs.Ytlpopfhaephfaab
open Go.RowKit Go.Maps Go.Sort

/-- counting at a side: -1 is outside -/
def cntSide (X : Nat → Sec) (side way : Int) : Nat → Sec := if side < 0 then X else cntAt X side.toNat way

set_option maxHeartbeats 1000000 in
theorem count_any (S : Int) (g n B lo hi : Nat) (ok : Bool) (gs c1 ns : Nat) (v2 : Option Addr) (c2 : Nat) (side way : Int) (X : Nat → Sec) (w : World) (hw : way = 1 ∨ way = -1) (h1 : -1 ≤ side) (h2 : side < (ns : Int)) (hx : SlF w 93 5 lo hi (.slice (some ⟨gs, 0, none⟩) ns c1) ns (secs X)) (hc : ∀ k, k < ns → -1000000 ≤ (X k).count ∧ (X k).count ≤ 1000000) :
    Calls Try.prog 110 #[.agg #[.int .i64 S, .slice (some ⟨g, 0, none⟩) n n, .map (some B), .bool ok, .slice (some ⟨gs, 0, none⟩) ns c1, .slice v2 n c2], .int .i64 side, .int .i64 way] w fun e w' => e = .returned (.tuple #[]) ∧ SlF w' 93 5 lo hi (.slice (some ⟨gs, 0, none⟩) ns c1) ns (secs (cntSide X side way)) ∧ Turned w w' (· = 93) lo hi := by
  by_cases h : side < 0
  · have e : side = -1 := by omega
    subst e
    have e1 : cntSide X (-1) way = X := by unfold cntSide; rw [if_pos (by omega)]
    rw [e1]
    clear hc e1
    go_enter Try.func110, Try.ntmps110
    go_wp2
    exact bodyPost_ret (v := .tuple #[]) (by simp [results, Try.results110, go_sem]) rfl ⟨rfl, hx.alloc _, Turned.of_below (below_alloc (Below.refl _ _) _)⟩
  · obtain ⟨k, rfl⟩ : ∃ k : Nat, side = (k : Int) := ⟨side.toNat, by omega⟩
    have e1 : cntSide X (k : Int) way = cntAt X k way := by unfold cntSide; rw [if_neg h]; simp
    rw [e1]
    obtain ⟨a1, a2⟩ := hc k (by omega)
    exact count_in S g n B lo hi ok gs c1 ns k v2 c2 way X w hw (by omega) hx a1 a2

theorem countOk_cnt {x : Sec} {way : Int} (h0 : -1000000 ≤ x.count) (h1 : x.count ≤ 1000000) : -1000000 ≤ (cnt x way).count ∧ (cnt x way).count ≤ 1000000 := by
  show -1000000 ≤ cntC x.count way ∧ cntC x.count way ≤ 1000000
  unfold cntC
  split
  · rename_i h; unfold inB at h; simp at h; omega
  · omega

theorem countOk_side {X : Nat → Sec} {ns : Nat} {side way : Int} (hc : ∀ k, k < ns → -1000000 ≤ (X k).count ∧ (X k).count ≤ 1000000) : ∀ k, k < ns → -1000000 ≤ (cntSide X side way k).count ∧ (cntSide X side way k).count ≤ 1000000 := by
  intro k hk
  unfold cntSide
  split
  · exact hc k hk
  · unfold cntAt
    split
    · rename_i h
      have := hc k hk
      rw [h] at this
      exact countOk_cnt this.1 this.2
    · exact hc k hk

set_option maxHeartbeats 1000000 in
theorem l2add_in (b lo hi : Nat) (ok : Bool) (gs c1 ns k : Nat) (v2 : Value) (way : Int) (X : Nat → Sec) (w : World) (hw : way = 1 ∨ way = -1) (hk : k < ns) (hb : Box3 w b 44 (.bool ok) (.slice (some ⟨gs, 0, none⟩) ns c1) v2) (hx : SlF w 93 5 lo hi (.slice (some ⟨gs, 0, none⟩) ns c1) ns (secs X)) (h0 : -1000000 ≤ (X k).count) (h1 : (X k).count ≤ 1000000) :
    Calls Try.prog 56 #[.pointer (some ⟨b, 0, none⟩), .int .i64 k, .int .i64 way] w fun e w' => e = .returned (.tuple #[]) ∧ SlF w' 93 5 lo hi (.slice (some ⟨gs, 0, none⟩) ns c1) ns (secs (cntAt X k way)) ∧ Turned w w' (· = 93) lo hi := by
  obtain ⟨l1, l2, m, f, b1, b2, b3⟩ := hx.blk (by omega)
  obtain ⟨e0, e1, e2, e3, e4⟩ := five b2 b1 hk b3
  obtain ⟨y0, y1, y2⟩ := hb.cells
  have hk' : (k : Int) < (ns : Int) := by omega
  have hkm : ¬ ((k : Int) < 0) := by omega
  have z0 := b2.frozen (k * 5)
  have z1 := b2.frozen (k * 5 + 1)
  have z2 := b2.frozen (k * 5 + 2)
  have z3 := b2.frozen (k * 5 + 3)
  have z4 := b2.frozen (k * 5 + 4)
  obtain ⟨x, ex⟩ : ∃ x, X k = x := ⟨_, rfl⟩
  rw [ex] at e0 e1 e2 e3 e4 h0 h1
  obtain ⟨told, count, lost, sweep, last⟩ := x
  simp only at e0 e1 e2 e3 e4 h0 h1
  have HX : Hid (X k = ⟨told, count, lost, sweep, last⟩) := ex
  have HS : Hid _ := hx
  clear ex hx b2 b3 hb
  rcases cnt_cases count way h0 h1 hw with ⟨hi1, hc⟩ | ⟨hi1, hc, hcc⟩
  · have i1 : -1000000 ≤ count + way := by unfold inB at hi1; simp at hi1; omega
    have i2 : count + way ≤ 1000000 := by unfold inB at hi1; simp at hi1; omega
    have hcX : cntC (X k).count way = count + way := by rw [HX.out]; exact hc
    have HCX : Hid (cntC (X k).count way = count + way) := hcX
    have HW : Hid ((X k).sweep = sweep) := by show (X k).sweep = sweep; rw [HX.out]
    clear hcX hc hi1
    rcases (show count + way < 0 ∨ (count + way = 0 ∧ way = -1) ∨ (count + way = 0 ∧ way = 1) ∨ 0 < count + way by omega) with hc | ⟨hc, rfl⟩ | ⟨hc, rfl⟩ | hc
    · have g2 : (count + way == 0) = false := by simp; omega
      have E := cntV1 HS.out hk HCX.out hc (by omega)
      cases sweep
      all_goals
        rcases hw with rfl | rfl
        all_goals
          go_enter Try.func56, Try.ntmps56
          go_wp2
          go_end0
          exact ⟨rfl, E.1, E.2⟩
    · have g0 : count = 1 := by omega
      subst g0
      cases sweep
      · have E := cntV3 HS.out hk HCX.out (by omega) (by rw [HW.out]; simp)
        go_enter Try.func56, Try.ntmps56
        go_wp2
        go_end0
        exact ⟨rfl, E.1, E.2⟩
      · have E := cntV2 HS.out hk HCX.out hc rfl
        go_enter Try.func56, Try.ntmps56
        go_wp2
        go_end0
        exact ⟨rfl, E.1, E.2⟩
    · have g0 : count = -1 := by omega
      subst g0
      have E := cntV3 HS.out hk HCX.out (by omega) (by omega)
      cases sweep
      all_goals
        go_enter Try.func56, Try.ntmps56
        go_wp2
        go_end0
        exact ⟨rfl, E.1, E.2⟩
    · have g2 : (count + way == 0) = false := by simp; omega
      have g3 : decide (count + way < 0) = false := by simp; omega
      have E := cntV3 HS.out hk HCX.out (by omega) (by omega)
      cases sweep
      all_goals
        rcases hw with rfl | rfl
        all_goals
          go_enter Try.func56, Try.ntmps56
          go_wp2
          go_end0
          exact ⟨rfl, E.1, E.2⟩
  · have hcX : cntC (X k).count way = (X k).count := by rw [HX.out]; exact hc
    rcases hcc with ⟨rfl, rfl⟩ | ⟨rfl, rfl⟩
    · have E := cntO1 HS.out hk hcX (by rw [HX.out]; simp) (by rw [HX.out]; simp)
      clear hc hcX hi1
      cases sweep
      all_goals
        go_enter Try.func56, Try.ntmps56
        go_wp2
        go_end0
        exact ⟨rfl, E.1, E.2⟩
    · have E := cntO2 HS.out hk hcX (by rw [HX.out]; simp) (by rw [HX.out]; simp)
      clear hc hcX hi1
      cases sweep
      all_goals
        go_enter Try.func56, Try.ntmps56
        go_wp2
        go_end0
        exact ⟨rfl, E.1, E.2⟩

set_option maxHeartbeats 1000000 in
theorem l2add_any (b lo hi : Nat) (ok : Bool) (gs c1 ns : Nat) (v2 : Value) (side way : Int) (X : Nat → Sec) (w : World) (hw : way = 1 ∨ way = -1) (_h1 : -1 ≤ side) (h2 : side < (ns : Int)) (hb : Box3 w b 44 (.bool ok) (.slice (some ⟨gs, 0, none⟩) ns c1) v2) (hx : SlF w 93 5 lo hi (.slice (some ⟨gs, 0, none⟩) ns c1) ns (secs X)) (hc : ∀ k, k < ns → -1000000 ≤ (X k).count ∧ (X k).count ≤ 1000000) :
    Calls Try.prog 56 #[.pointer (some ⟨b, 0, none⟩), .int .i64 side, .int .i64 way] w fun e w' => e = .returned (.tuple #[]) ∧ SlF w' 93 5 lo hi (.slice (some ⟨gs, 0, none⟩) ns c1) ns (secs (cntSide X side way)) ∧ Turned w w' (· = 93) lo hi := by
  by_cases h : side < 0
  · have e1 : cntSide X side way = X := by unfold cntSide; rw [if_pos h]
    rw [e1]
    clear hc e1 hb
    go_enter Try.func56, Try.ntmps56
    go_wp2
    exact bodyPost_ret (v := .tuple #[]) (by simp [results, Try.results56, go_sem]) rfl ⟨rfl, hx, Turned.refl _ _ _ _⟩
  · obtain ⟨k, rfl⟩ : ∃ k : Nat, side = (k : Int) := ⟨side.toNat, by omega⟩
    have e1 : cntSide X (k : Int) way = cntAt X k way := by unfold cntSide; rw [if_neg h]; simp
    rw [e1]
    obtain ⟨a1, a2⟩ := hc k (by omega)
    exact l2add_in b lo hi ok gs c1 ns k v2 way X w hw (by omega) hb hx a1 a2

end Go.Proofs.Ytlpopfhaephfaab
