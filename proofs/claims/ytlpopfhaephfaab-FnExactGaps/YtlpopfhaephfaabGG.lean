import Derived.Test.YtlpopfhaephfaabW1
import Derived.ProofKit
import Derived.Lib.SmallJoins
import Derived.Deep.SlicePairs
import Derived.Test.YtlpopfhaephfaabRE1
import Derived.Test.YtlpopfhaephfaabGF
import Derived.Test.YtlpopfhaephfaabGE
namespace Go.Proofs.Ytlpopfhaephfaab
open Go.ChangeShapes Go.WideShapes Go.ChangeAt Go.RowKit Go.Joins

theorem Try.own : ownKnob Try.prog.godebug = none := by kernel_rfl
theorem Try.laidOut : laidOutB Try.prog = true := by kernel_rfl
theorem Try.cellsL : Try.prog.cellsOf 24 = 2 := by kernel_rfl
theorem Try.cellsC : Try.prog.cellsOf 124 = 2 := by kernel_rfl
theorem Try.cellsI : Try.prog.cellsOf 3 = 1 := by kernel_rfl

section
variable {H : Type} {enc : TypeId × Value → H} {W : World} {base : Nat} {spare : Nat → Bool} {held : Bool}

theorem came_of_trod {fuel : Nat} {c : Value} {x : DataW H × List MemPlace} (h : DataW.trod enc Try.prog W base spare held fuel 22 [c] = some x) :
    ∃ (ao : Option Addr) (n cap : Nat) (F T : Nat → Int), c = .slice ao n cap ∧ n ≤ maxLen ∧ Came W ao n F T := by
  rcases Deep.open_slice_pairs Try.underlying22 Try.underlying124 Try.cellsC rfl rfl Try.cellsI Try.cellsI h with ⟨hc, _⟩ | ⟨a, len, cap, m, n, V0, V1, D0, D1, P0, P1, hc, _, hl, hm, hmm, _, hx⟩
  · simp only [List.cons.injEq, and_true] at hc
    exact ⟨none, 0, 0, fun _ => 0, fun _ => 0, hc, Nat.zero_le _, .inl rfl⟩
  · simp only [List.cons.injEq, and_true] at hc
    refine ⟨some a, len, cap, fun i => intOf (V0 i), fun i => intOf (V1 i), hc, Nat.le_trans hl hm, ?_⟩
    rcases Nat.eq_zero_or_pos len with h0 | h0
    · exact .inl h0
    · right
      have hlm : len ≤ m := by rw [hmm]; split <;> omega
      obtain ⟨b, off, spot⟩ := a
      have hs : spot = none := by simpa [Addr.add] using World.cell?_spot (hx 0 (by omega)).1
      subst hs
      refine ⟨b, off, rfl, ?_, fun i hi => ?_⟩
      · have := World.block_lt_of_cell? W _ (hx 0 (by omega)).1
        simpa [Addr.add] using this
      · obtain ⟨h1, h2, h3, h4⟩ := hx i (by omega)
        obtain ⟨z, e0, _, _⟩ := DataW.trod_int Try.underlying3 h3
        obtain ⟨z', e1, _, _⟩ := DataW.trod_int Try.underlying3 h4
        simp only [List.cons.injEq, and_true] at e0 e1
        rw [add_plain] at h1 h2
        rw [e0] at h1
        rw [e1] at h2
        rw [← Nat.add_assoc] at h2
        exact ⟨by rw [h1]; show _ = some (Value.int .i64 (intOf (V0 i))); rw [e0]; rfl, by rw [h2]; show _ = some (Value.int .i64 (intOf (V1 i))); rw [e1]; rfl⟩

set_option maxRecDepth 100000 in
theorem open_layout {r : Reach} {b0 : Nat} {v : Value} {d : DataW H} {p : List MemPlace} (hv : Value.okWide Try.prog W r b0 24 v) (h : DataW.Trod enc Try.prog W base spare held 24 v d p) :
    ∃ (S : Int) (ao : Option Addr) (n cap : Nat) (F T : Nat → Int), v = .agg #[.int .i64 S, .slice ao n cap] ∧ n ≤ maxLen ∧ Came W ao n F T ∧ (Lit.int .i64 S).wf = true := by
  obtain ⟨c0, c1, y0, y1, m, rfl, rfl, rfl, hy0, hy1⟩ := open_agg2 Try.underlying24 (by kernel_rfl) Try.cellsL hv h
  obtain ⟨S, e0, _, wS⟩ := DataW.trod_int Try.underlying3 hy0
  simp only [List.cons.injEq, and_true] at e0
  obtain ⟨ao, n, cap, F, T, e1, hn, hc⟩ := came_of_trod hy1
  exact ⟨S, ao, n, cap, F, T, by rw [e0, e1], hn, hc, wS⟩
end

end Go.Proofs.Ytlpopfhaephfaab

namespace Go.Proofs.Ytlpopfhaephfaab
open Go.ChangeShapes Go.WideShapes Go.ChangeAt Go.RowKit Go.Joins

theorem Try.cellsEv : Try.prog.cellsOf 26 = 3 := by kernel_rfl

section
variable {H : Type} {enc : TypeId × Value → H} {W : World} {base : Nat} {spare : Nat → Bool} {held : Bool}

set_option maxRecDepth 100000 in
theorem came3_of_trod {fuel : Nat} {c : Value} {x : DataW H × List MemPlace} (h : DataW.trod enc Try.prog W base spare held fuel 57 [c] = some x) :
    ∃ (ao : Option Addr) (n cap : Nat) (P : Nat → Nat → Int), c = .slice ao n cap ∧ n ≤ maxLen ∧ Came3 W ao n P := by
  rcases Deep.open_slice Try.underlying57 h with ⟨hc, _⟩ | ⟨a, len, cap, m, n, D, Pl, hc, _, hl, hm, hmm, _, hx⟩
  · simp only [List.cons.injEq, and_true] at hc
    exact ⟨none, 0, 0, fun _ _ => 0, hc, Nat.zero_le _, .inl rfl⟩
  · simp only [List.cons.injEq, and_true] at hc
    have hlm : len ≤ m := by rw [hmm]; split <;> omega
    have each : ∀ i, i < m → ∃ z : Int × Int × Int, W.cell? (a.add (i * 3)) = some (.int .i64 z.1) ∧ W.cell? (a.add (i * 3 + 1)) = some (.int .i64 z.2.1) ∧ W.cell? (a.add (i * 3 + 2)) = some (.int .i64 z.2.2) := by
      intro i hi
      obtain ⟨cs', h1, h2⟩ := hx i hi
      rw [Try.cellsEv] at h1
      obtain ⟨_, hlen, hcell⟩ := World.cells?_some h1
      obtain ⟨xs, k, hk, hxy, _, hxl, hf⟩ := DataW.trod_struct Try.underlying26 h2
      match xs, hxl, cs', hlen with
      | [y0, y1, y2], _, [v0, v1, v2], _ =>
        have g0 := hf 0 _ rfl
        have g1 := hf 1 _ rfl
        have g2 := hf 2 _ rfl
        simp [Try.cellsI] at g0 g1 g2
        obtain ⟨z0, e0, _, _⟩ := DataW.trod_int Try.underlying3 g0
        obtain ⟨z1, e1, _, _⟩ := DataW.trod_int Try.underlying3 g1
        obtain ⟨z2, e2, _, _⟩ := DataW.trod_int Try.underlying3 g2
        simp only [List.cons.injEq, and_true] at e0 e1 e2
        have k0 := hcell 0 (by omega)
        have k1 := hcell 1 (by omega)
        have k2 := hcell 2 (by omega)
        rw [Deep.add_add] at k0 k1 k2
        exact ⟨(z0, z1, z2), by simpa [e0] using k0, by simpa [e1] using k1, by simpa [e2] using k2⟩
    obtain ⟨q, hq⟩ := Deep.choose_lt each
    refine ⟨some a, len, cap, fun i j => if j = 0 then (q i).1 else if j = 1 then (q i).2.1 else (q i).2.2, hc, Nat.le_trans hl hm, ?_⟩
    rcases Nat.eq_zero_or_pos len with h0 | h0
    · exact .inl h0
    · right
      obtain ⟨b, off, spot⟩ := a
      have hs : spot = none := by simpa [Addr.add] using World.cell?_spot (hq 0 (by omega)).1
      subst hs
      refine ⟨b, off, rfl, ?_, fun i hi j hj => ?_⟩
      · have := World.block_lt_of_cell? W _ (hq 0 (by omega)).1
        simpa [Addr.add] using this
      · obtain ⟨k0, k1, k2⟩ := hq i (by omega)
        rw [add_plain] at k0 k1 k2
        match j, hj with
        | 0, _ => simpa using k0
        | 1, _ => simpa [Nat.add_assoc] using k1
        | 2, _ => simpa [Nat.add_assoc] using k2

end

end Go.Proofs.Ytlpopfhaephfaab

namespace Go.Proofs.Ytlpopfhaephfaab
open Go.ChangeShapes Go.WideShapes Go.ChangeAt Go.RowKit Go.Joins

/-- both Gaps answer alike -/
theorem gaps_both (S : Int) (n : Nat) (F T : Nat → Int) (m : Nat) (P : Nat → Nat → Int) (hm : m ≤ 1048576) : ∃ (c : Nat) (G : Nat → Nat → Int), c ≤ 120000 ∧
    AnsC2 41 S n F T m P (fun W lo hi v => SlF W 121 2 lo hi v c (evs G)) ∧ AnsC2 42 S n F T m P (fun W lo hi v => SlF W 121 2 lo hi v c (evs G)) := by
  by_cases hok : lokZ S n F T = 0 ∧ m ≤ 2000
  · obtain ⟨hl, hm2⟩ := hok
    obtain ⟨r1, r2, r3⟩ := lok_range hl
    obtain ⟨ns, rfl⟩ : ∃ ns : Nat, S = (ns : Int) := ⟨S.toNat, by omega⟩
    have lg := gpA_len (ns : Int) n F T P ns m (by omega)
    exact ⟨_, _, by omega, fun g ge W hr hv => specGaps_ok g n ge m ns F T P W hr hv hl hm2, fun g ge W hr hv => implGaps_ok g n ge (ge + 1) m ns F T P _ W hr (SlF.of_row hv (Nat.le_refl _) (Nat.lt_succ_self _)) hl hm2⟩
  · refine ⟨0, fun _ _ => 0, by omega, fun g ge W hr hv => ?_, fun g ge W hr hv => ?_⟩
    · exact (specGaps_bad S g n ge m F T W hm hr hok).mono fun e w' ⟨h1, h2⟩ => ⟨_, h1, ⟨_, _, rfl, .inl rfl⟩, h2⟩
    · exact (implGaps_bad S g n m m _ F T W hm hr hok).mono fun e w' ⟨h1, h2⟩ => ⟨_, h1, ⟨_, _, rfl, .inl rfl⟩, h2⟩

theorem gaps_all (S : Int) (ao ae : Option Addr) (n cap m ce : Nat) (F T : Nat → Int) (P : Nat → Nat → Int) (w : World) (hn : (n : Int) ≤ 1048576) (hz : (m : Int) ≤ 1048576 - n) (h : Came w ao n F T) (hE : Came3 w ae m P) :
    Calls Try.prog 8 #[.agg #[.int .i64 S, .slice ao n cap], .slice ae m ce] w fun e w' => e = .returned (.bool true) ∧ Below w.heap.size w w' := by
  obtain ⟨c, G, h1, cS, cI⟩ := gaps_both S n F T m P (by omega)
  refine gaps_small S ao ae n cap m ce F T P w hn hz h hE _ (fun W lo hi v => SlF W 121 2 lo hi v c (evs (mkG 1))) (1 + 2 * (c : Int)) (by omega) ⟨fun a b => a.on b, fun a b c => a.turned b (.inr c), fun a b => SlF.on a b⟩ cS cI ?_ ?_ ?_
  · intro W lo hi lo' hi' v v' a b
    exact eqGapS_same lo hi lo' hi' c v v' G W (by omega) a b
  · intro W lo hi v _ a
    exact (markGapS_any lo hi c v 1 G W (by omega) (by omega) (by omega) a).mono fun e w' ⟨x, y, z⟩ => ⟨x, y, _, z⟩
  · intro W lo hi v a
    exact heldGapS_any lo hi c v 1 W (by omega) (by omega) (by omega) a

set_option maxRecDepth 100000 in
theorem fnExactGaps_lifted (os : Os) (started : os.Started) (H : Type) (enc : TypeId × Value → H) :
    ReturnsInHanded {} Try.checked os 8 .any (Rows.fnExactGapsSpec.pre6 enc Try.prog Try.f8 Rows.fnExactGapsRow.domain false) (Rows.fnExactGapsSpec.post enc Try.prog Try.f8 false true false false) := by
  refine returnsInHanded_of_change (C := Try.checked) Try.own started (by kernel_rfl) Try.func8
    (ChangeSpec.witness6 (enc := enc) (C := Try.checked) false ⟨#[], #[.agg #[.int .i64 0, .slice none 0 0], .slice none 0 0], []⟩ 8 (by kernel_rfl) (by kernel_rfl) (by kernel_rfl) (by kernel_rfl)) ?_
  intro W base args ds gs before hval0 hW hcnd _
  have hval : ∀ (j : Nat) t v, Try.f8.params[j]? = some t → args[j]? = some v → Value.okWide Try.prog W .any base t v := hval0
  have hW' := hW
  obtain ⟨p, q, hA0, hV, rfl, hfz, hnd⟩ := hW
  have hA : DataW.TrodAll enc Try.prog W 0 (fun _ => true) true Try.f8.params.toList args.toList ds p := hA0
  rw [Try.params8] at hA hval
  obtain ⟨v0, vs0, d0, ds0, p0, q0, hargs, rfl, rfl, h0, r0⟩ := trodAll_cons hA
  obtain ⟨v1, vs1, d1, ds1, p1, q1, rfl, rfl, rfl, h1, r1⟩ := trodAll_cons r0
  obtain ⟨rfl, rfl, rfl⟩ := trodAll_nil r1
  obtain rfl : args = #[v0, v1] := by rw [← Array.toList_inj]; exact hargs
  obtain ⟨rfl, rfl⟩ := trodVars_none hV
  have hl0 : ∀ x ∈ p0, x.block < W.heap.size := fun x hx => by simpa using hW'.lt x (by simp [hx])
  have hl1 : ∀ x ∈ p1, x.block < W.heap.size := fun x hx => by simpa using hW'.lt x (by simp [hx])
  obtain ⟨S, ao, n, cap, F, T, rfl, hn, hc, _⟩ := open_layout (hval 0 24 v0 rfl rfl) h0
  obtain ⟨ap, nP, capP, rfl⟩ := okWide_slice Try.underlying57 (hval 1 57 v1 rfl rfl)
  obtain ⟨P, hnP, hcP⟩ : ∃ P, nP ≤ maxLen ∧ Came3 W ap nP P := by
    obtain ⟨fuel, hf⟩ := h1
    obtain ⟨ao', n', cap', P, e, hm, hc⟩ := came3_of_trod (c := .slice ap nP capP) hf
    simp only [Value.slice.injEq] at e
    obtain ⟨rfl, rfl, rfl⟩ := e
    exact ⟨P, hm, hc⟩
  clear hA0 hval0
  simp only [List.append_nil] at hW'
  have key : Calls Try.prog 8 #[.agg #[.int .i64 S, .slice ao n cap], .slice ap nP capP] W fun e w' => e = .returned (.bool true) ∧ Below W.heap.size W w' := by
    by_cases h : (n : Int) ≤ 1048576
    · by_cases hp : (nP : Int) ≤ 1048576 - n
      · exact gaps_all S ao ap n cap nP capP F T P W h hp hc hcP
      · exact gaps_great2 S ao ap n cap nP capP W hn hnP h hp
    · exact gaps_great S ao ap n cap nP capP W hn h
  refine key.mono fun e W' ⟨he, hb⟩ => ?_
  subst he
  refine ⟨_, rfl, _, _, _, [], p0 ++ (p1 ++ []), [], hW', ?_, ?_, rfl, hb.frame _, fun h => by cases h⟩
  · exact trodAll_mk1 (shut_bool Try.underlying4 true)
  · exact trodAll_cons_mk (Below.trod Try.laidOut (by kernel_rfl) (of_decide_eq_true (by kernel_rfl)) h0 hb hl0) (trodAll_cons_mk (Below.trod Try.laidOut (by kernel_rfl) (of_decide_eq_true (by kernel_rfl)) h1 hb hl1) trodAll_mk0)

theorem fnExactGaps_holds : Rows.FnExactGapsSaid :=
  OpenClaim.holds_of_wide 8 Try.f8 rfl rfl rfl rfl rfl rfl rfl ⟨rfl, rfl, rfl, rfl, rfl⟩ rfl rfl rfl rfl rfl (by kernel_rfl) Try.func8 (by kernel_rfl)
    (of_decide_eq_true (by kernel_rfl)) (by unfold Func.isWrapper; first | (rw [if_pos (by decide +kernel)]; kernel_rfl) | (rw [if_neg (by decide +kernel)]; exact ⟨rfl, rfl⟩))
    (fun os started H enc _ => fnExactGaps_lifted os started H enc)

#print axioms fnExactGaps_holds

end Go.Proofs.Ytlpopfhaephfaab
