import Derived.Test.YtlpopfhaephfaabDoorW1
import Derived.ProofKit
import Derived.Lib.SmallJoins
import Derived.Deep.SlicePairs
namespace Go.Proofs.YtlpopfhaephfaabDoor
open Go.ChangeShapes Go.WideShapes Go.ChangeAt Go.RowKit Go.Joins

theorem Tryd.own : ownKnob Tryd.prog.godebug = none := by kernel_rfl
theorem Tryd.laidOut : laidOutB Tryd.prog = true := by kernel_rfl
theorem Tryd.cellsL : Tryd.prog.cellsOf 24 = 2 := by kernel_rfl
theorem Tryd.cellsC : Tryd.prog.cellsOf 83 = 2 := by kernel_rfl
theorem Tryd.cellsI : Tryd.prog.cellsOf 3 = 1 := by kernel_rfl

section
variable {H : Type} {enc : TypeId × Value → H} {W : World} {base : Nat} {spare : Nat → Bool} {held : Bool}

theorem came_of_trod {fuel : Nat} {c : Value} {x : DataW H × List MemPlace} (h : DataW.trod enc Tryd.prog W base spare held fuel 22 [c] = some x) :
    ∃ (ao : Option Addr) (n cap : Nat) (F T : Nat → Int), c = .slice ao n cap ∧ n ≤ maxLen ∧ Came W ao n F T := by
  rcases Deep.open_slice_pairs Tryd.underlying22 Tryd.underlying83 Tryd.cellsC rfl rfl Tryd.cellsI Tryd.cellsI h with ⟨hc, _⟩ | ⟨a, len, cap, m, n, V0, V1, D0, D1, P0, P1, hc, _, hl, hm, hmm, _, hx⟩
  · simp only [List.cons.injEq, and_true] at hc
    exact ⟨none, 0, 0, fun _ => 0, fun _ => 0, hc, Nat.zero_le _, .inl rfl⟩
  · simp only [List.cons.injEq, and_true] at hc
    refine ⟨some a, len, cap, fun i => intOf (V0 i), fun i => intOf (V1 i), hc, Nat.le_trans hl hm, ?_⟩
    rcases Nat.eq_zero_or_pos len with h0 | h0
    · exact .inl h0
    · right
      have hlm : len ≤ m := by rw [hmm]; split <;> omega
      obtain ⟨b, off, spot⟩ := a
      have hs : spot = none := by simpa [Addr.add] using World.cell?_spot (hx 0 (by omega)).1
      subst hs
      refine ⟨b, off, rfl, ?_, fun i hi => ?_⟩
      · have := World.block_lt_of_cell? W _ (hx 0 (by omega)).1
        simpa [Addr.add] using this
      · obtain ⟨h1, h2, h3, h4⟩ := hx i (by omega)
        obtain ⟨z, e0, _, _⟩ := DataW.trod_int Tryd.underlying3 h3
        obtain ⟨z', e1, _, _⟩ := DataW.trod_int Tryd.underlying3 h4
        simp only [List.cons.injEq, and_true] at e0 e1
        rw [add_plain] at h1 h2
        rw [e0] at h1
        rw [e1] at h2
        rw [← Nat.add_assoc] at h2
        exact ⟨by rw [h1]; show _ = some (Value.int .i64 (intOf (V0 i))); rw [e0]; rfl, by rw [h2]; show _ = some (Value.int .i64 (intOf (V1 i))); rw [e1]; rfl⟩

set_option maxRecDepth 100000 in
theorem open_layout {r : Reach} {b0 : Nat} {v : Value} {d : DataW H} {p : List MemPlace} (hv : Value.okWide Tryd.prog W r b0 24 v) (h : DataW.Trod enc Tryd.prog W base spare held 24 v d p) :
    ∃ (S : Int) (ao : Option Addr) (n cap : Nat) (F T : Nat → Int), v = .agg #[.int .i64 S, .slice ao n cap] ∧ n ≤ maxLen ∧ Came W ao n F T ∧ (Lit.int .i64 S).wf = true := by
  obtain ⟨c0, c1, y0, y1, m, rfl, rfl, rfl, hy0, hy1⟩ := open_agg2 Tryd.underlying24 (by kernel_rfl) Tryd.cellsL hv h
  obtain ⟨S, e0, _, wS⟩ := DataW.trod_int Tryd.underlying3 hy0
  simp only [List.cons.injEq, and_true] at e0
  obtain ⟨ao, n, cap, F, T, e1, hn, hc⟩ := came_of_trod hy1
  exact ⟨S, ao, n, cap, F, T, by rw [e0, e1], hn, hc, wS⟩
end

end Go.Proofs.YtlpopfhaephfaabDoor
