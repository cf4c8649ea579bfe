import Derived.Test.YtlpopfhaephfaabST1
import Derived.Test.YtlpopfhaephfaabOpen1
namespace Go.Proofs.Ytlpopfhaephfaab
open Go.ChangeShapes Go.WideShapes Go.ChangeAt Go.RowKit Go.Joins

theorem Try.cellsSe : Try.prog.cellsOf 132 = 5 := by kernel_rfl
theorem Try.cellsBo : Try.prog.cellsOf 4 = 1 := by kernel_rfl
theorem Try.cellsSt : Try.prog.cellsOf 40 = 3 := by kernel_rfl

section
variable {H : Type} {enc : TypeId × Value → H} {W : World} {base : Nat} {spare : Nat → Bool} {held : Bool}

set_option maxRecDepth 100000 in
theorem cameS_of_trod {fuel : Nat} {c : Value} {x : DataW H × List MemPlace} (h : DataW.trod enc Try.prog W base spare held fuel 37 [c] = some x) :
    ∃ (ao : Option Addr) (n cap : Nat) (X : Nat → Sec), c = .slice ao n cap ∧ n ≤ maxLen ∧ CameS W ao n X := by
  rcases Deep.open_slice Try.underlying37 h with ⟨hc, _⟩ | ⟨a, len, cap, m, n, D, Pl, hc, _, hl, hm, hmm, _, hx⟩
  · simp only [List.cons.injEq, and_true] at hc
    exact ⟨none, 0, 0, fun _ => sec0, hc, Nat.zero_le _, .inl rfl⟩
  · simp only [List.cons.injEq, and_true] at hc
    have hlm : len ≤ m := by rw [hmm]; split <;> omega
    have each : ∀ i, i < m → ∃ z : Sec, ∀ j, j < 5 → W.cell? (a.add (i * 5 + j)) = some (scell z j) := by
      intro i hi
      obtain ⟨cs', h1, h2⟩ := hx i hi
      rw [Try.cellsSe] at h1
      obtain ⟨_, hlen, hcell⟩ := World.cells?_some h1
      obtain ⟨xs, k, hk, hxy, _, hxl, hf⟩ := DataW.trod_struct Try.underlying132 h2
      match xs, hxl, cs', hlen with
      | [y0, y1, y2, y3, y4], _, [v0, v1, v2, v3, v4], _ =>
        have g0 := hf 0 _ rfl
        have g1 := hf 1 _ rfl
        have g2 := hf 2 _ rfl
        have g3 := hf 3 _ rfl
        have g4 := hf 4 _ rfl
        simp [Try.cellsI, Try.cellsBo] at g0 g1 g2 g3 g4
        obtain ⟨z0, e0, _, _⟩ := DataW.trod_int Try.underlying3 g0
        obtain ⟨z1, e1, _, _⟩ := DataW.trod_int Try.underlying3 g1
        obtain ⟨z2, e2, _⟩ := DataW.trod_bool Try.underlying4 g2
        obtain ⟨z3, e3, _⟩ := DataW.trod_bool Try.underlying4 g3
        obtain ⟨z4, e4, _, _⟩ := DataW.trod_int Try.underlying3 g4
        simp only [List.cons.injEq, and_true] at e0 e1 e2 e3 e4
        have k0 := hcell 0 (by omega)
        have k1 := hcell 1 (by omega)
        have k2 := hcell 2 (by omega)
        have k3 := hcell 3 (by omega)
        have k4 := hcell 4 (by omega)
        rw [Deep.add_add] at k0 k1 k2 k3 k4
        refine ⟨⟨z0, z1, z2, z3, z4⟩, fun j hj => ?_⟩
        match j, hj with
        | 0, _ => simpa [scell, e0] using k0
        | 1, _ => simpa [scell, e1] using k1
        | 2, _ => simpa [scell, e2] using k2
        | 3, _ => simpa [scell, e3] using k3
        | 4, _ => simpa [scell, e4] using k4
    haveI : Inhabited Sec := ⟨sec0⟩
    obtain ⟨q, hq⟩ := Deep.choose_lt each
    refine ⟨some a, len, cap, q, hc, Nat.le_trans hl hm, ?_⟩
    rcases Nat.eq_zero_or_pos len with h0 | h0
    · exact .inl h0
    · right
      obtain ⟨b, off, spot⟩ := a
      have hs : spot = none := by simpa [Addr.add] using World.cell?_spot (hq 0 (by omega) 0 (by omega))
      subst hs
      refine ⟨b, off, rfl, ?_, fun i hi j hj => ?_⟩
      · have := World.block_lt_of_cell? W _ (hq 0 (by omega) 0 (by omega))
        simpa [Addr.add] using this
      · have := hq i (by omega) j hj
        rw [add_plain] at this
        simpa [Nat.add_assoc] using this

theorem cameB_of_trod {fuel : Nat} {c : Value} {x : DataW H × List MemPlace} (h : DataW.trod enc Try.prog W base spare held fuel 38 [c] = some x) :
    ∃ (ao : Option Addr) (n cap : Nat) (D : Nat → Bool), c = .slice ao n cap ∧ n ≤ maxLen ∧ CameB W ao n D := by
  rcases Deep.open_slice Try.underlying38 h with ⟨hc, _⟩ | ⟨a, len, cap, m, n, D, Pl, hc, _, hl, hm, hmm, _, hx⟩
  · simp only [List.cons.injEq, and_true] at hc
    exact ⟨none, 0, 0, fun _ => false, hc, Nat.zero_le _, .inl rfl⟩
  · simp only [List.cons.injEq, and_true] at hc
    have hlm : len ≤ m := by rw [hmm]; split <;> omega
    have each : ∀ i, i < m → ∃ z : Bool, W.cell? (a.add i) = some (.bool z) := by
      intro i hi
      obtain ⟨cs', h1, h2⟩ := hx i hi
      rw [Try.cellsBo] at h1
      obtain ⟨_, hlen, hcell⟩ := World.cells?_some h1
      obtain ⟨z, e, _⟩ := DataW.trod_bool Try.underlying4 h2
      subst e
      have k0 := hcell 0 (by omega)
      rw [Deep.add_add] at k0
      exact ⟨z, by simpa using k0⟩
    obtain ⟨q, hq⟩ := Deep.choose_lt each
    refine ⟨some a, len, cap, q, hc, Nat.le_trans hl hm, ?_⟩
    rcases Nat.eq_zero_or_pos len with h0 | h0
    · exact .inl h0
    · right
      obtain ⟨b, off, spot⟩ := a
      have hs : spot = none := by simpa [Addr.add] using World.cell?_spot (hq 0 (by omega))
      subst hs
      refine ⟨b, off, rfl, ?_, fun i hi => ?_⟩
      · have := World.block_lt_of_cell? W _ (hq 0 (by omega))
        simpa [Addr.add] using this
      · have := hq i (by omega)
        rw [add_plain] at this
        exact this

set_option maxRecDepth 100000 in
theorem open_state {r : Reach} {b0 : Nat} {v : Value} {d : DataW H} {p : List MemPlace} (hv : Value.okWide Try.prog W r b0 40 v) (h : DataW.Trod enc Try.prog W base spare held 40 v d p) :
    ∃ (ok : Bool) (a1 : Option Addr) (ns c1 : Nat) (X : Nat → Sec) (a2 : Option Addr) (nd c2 : Nat) (D : Nat → Bool), v = .agg #[.bool ok, .slice a1 ns c1, .slice a2 nd c2] ∧ ns ≤ maxLen ∧ nd ≤ maxLen ∧ CameS W a1 ns X ∧ CameB W a2 nd D := by
  obtain ⟨c0, c1, c2, y0, y1, y2, m, rfl, rfl, rfl, hy0, hy1, hy2⟩ := open_agg3 Try.underlying40 (by kernel_rfl) Try.cellsSt hv h
  obtain ⟨ok, e0, _⟩ := DataW.trod_bool Try.underlying4 hy0
  simp only [List.cons.injEq, and_true] at e0
  obtain ⟨a1, ns, k1, X, e1, l1, hX⟩ := cameS_of_trod hy1
  obtain ⟨a2, nd, k2, D, e2, l2, hD⟩ := cameB_of_trod hy2
  exact ⟨ok, a1, ns, k1, X, a2, nd, k2, D, by rw [e0, e1, e2], l1, l2, hX, hD⟩
end

end Go.Proofs.Ytlpopfhaephfaab
