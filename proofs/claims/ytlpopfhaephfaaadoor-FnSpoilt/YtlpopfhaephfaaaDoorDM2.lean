import Derived.Test.YtlpopfhaephfaaaDoorCR
import Derived.Test.YtlpopfhaephfaaaDoorDM1
namespace Go.Proofs.YtlpopfhaephfaaaDoor
open Go.RowKit Go.Maps Go.Sort

/-- counting at a side: -1 is outside -/
def cntSide (X : Nat → Sec) (side way : Int) : Nat → Sec := if side < 0 then X else cntAt X side.toNat way

set_option maxHeartbeats 1000000 in
theorem count_any (S : Int) (g n B lo hi : Nat) (ok : Bool) (gs c1 ns : Nat) (v2 : Option Addr) (c2 : Nat) (side way : Int) (X : Nat → Sec) (w : World) (hw : way = 1 ∨ way = -1) (h1 : -1 ≤ side) (h2 : side < (ns : Int)) (hx : SlF w 43 5 lo hi (.slice (some ⟨gs, 0, none⟩) ns c1) ns (secs X)) (hc : ∀ k, k < ns → -1000000 ≤ (X k).count ∧ (X k).count ≤ 1000000) :
    Calls Tryd.prog 71 #[.agg #[.int .i64 S, .slice (gA g) n (gC g), .map (some B), .bool ok, .slice (some ⟨gs, 0, none⟩) ns c1, .slice v2 n c2], .int .i64 side, .int .i64 way] w fun e w' => e = .returned (.tuple #[]) ∧ SlF w' 43 5 lo hi (.slice (some ⟨gs, 0, none⟩) ns c1) ns (secs (cntSide X side way)) ∧ Turned w w' (· = 43) lo hi := by
  by_cases h : side < 0
  · have e : side = -1 := by omega
    subst e
    have e1 : cntSide X (-1) way = X := by unfold cntSide; rw [if_pos (by omega)]
    rw [e1]
    clear hc e1
    go_enter Tryd.func71, Tryd.ntmps71
    go_wp2
    exact bodyPost_ret (v := .tuple #[]) (by simp [results, Tryd.results71, go_sem]) rfl ⟨rfl, hx.alloc _, Turned.of_below (below_alloc (Below.refl _ _) _)⟩
  · obtain ⟨k, rfl⟩ : ∃ k : Nat, side = (k : Int) := ⟨side.toNat, by omega⟩
    have e1 : cntSide X (k : Int) way = cntAt X k way := by unfold cntSide; rw [if_neg h]; simp
    rw [e1]
    obtain ⟨a1, a2⟩ := hc k (by omega)
    exact count_in S g n B lo hi ok gs c1 ns k v2 c2 way X w hw (by omega) hx a1 a2

theorem countOk_cnt {x : Sec} {way : Int} (h0 : -1000000 ≤ x.count) (h1 : x.count ≤ 1000000) : -1000000 ≤ (cnt x way).count ∧ (cnt x way).count ≤ 1000000 := by
  show -1000000 ≤ cntC x.count way ∧ cntC x.count way ≤ 1000000
  unfold cntC
  split
  · rename_i h; unfold inB at h; simp at h; omega
  · omega

theorem countOk_side {X : Nat → Sec} {ns : Nat} {side way : Int} (hc : ∀ k, k < ns → -1000000 ≤ (X k).count ∧ (X k).count ≤ 1000000) : ∀ k, k < ns → -1000000 ≤ (cntSide X side way k).count ∧ (cntSide X side way k).count ≤ 1000000 := by
  intro k hk
  unfold cntSide
  split
  · exact hc k hk
  · unfold cntAt
    split
    · rename_i h
      have := hc k hk
      rw [h] at this
      exact countOk_cnt this.1 this.2
    · exact hc k hk

end Go.Proofs.YtlpopfhaephfaaaDoor
