import Derived.Test.YtlpopfhaephfaabTruthLaw
import Derived.Test.YtlpopfhaephfaabTR7
import Derived.Test.YtlpopfhaephfaabOpen3
namespace Go.Proofs.Ytlpopfhaephfaab
open Go.ChangeShapes Go.WideShapes Go.ChangeAt Go.RowKit Go.Joins

/-- both Truths answer alike -/
theorem truths (S : Int) (n : Nat) (F T : Nat → Int) (m : Nat) (P : Nat → Nat → Int) (hm : m ≤ 1048576) : ∃ (m' ns' : Nat) (Z : Nat → Nat → Int), m' ≤ 2000 ∧ ns' ≤ 60 ∧
    AnsC2 36 S n F T m P (fun W lo hi v => RwF W lo hi v m' ns' Z) ∧ AnsC2 37 S n F T m P (fun W lo hi v => RwF W lo hi v m' ns' Z) := by
  by_cases hok : lokZ S n F T = 0 ∧ m ≤ 2000
  · obtain ⟨hl, hm2⟩ := hok
    obtain ⟨r1, r2, r3⟩ := lok_range hl
    obtain ⟨ns, rfl⟩ : ∃ ns : Nat, S = (ns : Int) := ⟨S.toNat, by omega⟩
    exact ⟨m, ns, _, hm2, by omega, fun g ge W hr hv => specTruth_ok g n ge m ns F T P W hr hv hl hm2, fun g ge W hr hv => implTruth_ok (ns : Int) g n ge (ge + 1) m ns F T P _ W hr (SlF.of_row hv (Nat.le_refl _) (Nat.lt_succ_self _)) hl rfl hm2⟩
  · refine ⟨0, 0, fun _ _ => 0, by omega, by omega, fun g ge W hr hv => ?_, fun g ge W hr hv => ?_⟩
    · exact (specTruth_bad S g n m m _ F T W hm hr hok).mono fun e w' ⟨h1, h2⟩ => ⟨_, h1, RwF.nil _ _ _ _ _ _ h2.size _, h2⟩
    · exact (implTruth_bad S g n m m _ F T W hm hr hok).mono fun e w' ⟨h1, h2⟩ => ⟨_, h1, RwF.nil _ _ _ _ _ _ h2.size _, h2⟩

theorem truth_all (S : Int) (ao ae : Option Addr) (n cap m ce : Nat) (F T : Nat → Int) (P : Nat → Nat → Int) (w : World) (hn : (n : Int) ≤ 1048576) (hz : (m : Int) ≤ 1048576 - n) (h : Came w ao n F T) (hE : Came3 w ae m P) :
    Calls Try.prog 7 #[.agg #[.int .i64 S, .slice ao n cap], .slice ae m ce] w fun e w' => e = .returned (.bool true) ∧ Below w.heap.size w w' := by
  obtain ⟨m', ns', Z, h1, h2, cS, cI⟩ := truths S n F T m P (by omega)
  have hb := fun k => rwQ_bound (q0 := 1) (k := k) h2 (by omega)
  refine truth_small S ao ae n cap m ce F T P w hn hz h hE _ (fun W lo hi v => MkR W lo hi v m' ns' 1) (rwQ 1 ns' m') (hb m').1 ⟨fun a b => a.on b, fun a b c => a.turned b c, fun a b => RwF.on a b⟩ cS cI ?_ ?_ ?_
  · intro W lo hi lo' hi' v v' a b
    exact eqIntSS_same lo hi lo' hi' m' ns' v v' Z W (by omega) (by omega) a b
  · intro W lo hi v _ a
    exact (markIntSS_any lo hi m' ns' v 1 Z W h1 h2 (by omega) (by omega) a).mono fun e w' ⟨x, y, z⟩ => ⟨x, y, _, z⟩
  · intro W lo hi v a
    exact heldIntSS_any lo hi m' ns' v 1 W h1 h2 (by omega) (by omega) a

set_option maxRecDepth 100000 in
theorem fnExactTruth_lifted (os : Os) (started : os.Started) (H : Type) (enc : TypeId × Value → H) :
    ReturnsInHanded {} Try.checked os 7 .any (Rows.fnExactTruthSpec.pre6 enc Try.prog Try.f7 Rows.fnExactTruthRow.domain false) (Rows.fnExactTruthSpec.post enc Try.prog Try.f7 false true false false) := by
  refine returnsInHanded_of_change (C := Try.checked) Try.own started (by kernel_rfl) Try.func7
    (ChangeSpec.witness6 (enc := enc) (C := Try.checked) false ⟨#[], #[.agg #[.int .i64 0, .slice none 0 0], .slice none 0 0], []⟩ 8 (by kernel_rfl) (by kernel_rfl) (by kernel_rfl) (by kernel_rfl)) ?_
  intro W base args ds gs before hval0 hW hcnd _
  have hval : ∀ (j : Nat) t v, Try.f7.params[j]? = some t → args[j]? = some v → Value.okWide Try.prog W .any base t v := hval0
  have hW' := hW
  obtain ⟨p, q, hA0, hV, rfl, hfz, hnd⟩ := hW
  have hA : DataW.TrodAll enc Try.prog W 0 (fun _ => true) true Try.f7.params.toList args.toList ds p := hA0
  rw [Try.params7] at hA hval
  obtain ⟨v0, vs0, d0, ds0, p0, q0, hargs, rfl, rfl, h0, r0⟩ := trodAll_cons hA
  obtain ⟨v1, vs1, d1, ds1, p1, q1, rfl, rfl, rfl, h1, r1⟩ := trodAll_cons r0
  obtain ⟨rfl, rfl, rfl⟩ := trodAll_nil r1
  obtain rfl : args = #[v0, v1] := by rw [← Array.toList_inj]; exact hargs
  obtain ⟨rfl, rfl⟩ := trodVars_none hV
  have hl0 : ∀ x ∈ p0, x.block < W.heap.size := fun x hx => by simpa using hW'.lt x (by simp [hx])
  have hl1 : ∀ x ∈ p1, x.block < W.heap.size := fun x hx => by simpa using hW'.lt x (by simp [hx])
  obtain ⟨S, ao, n, cap, F, T, rfl, hn, hc, _⟩ := open_layout (hval 0 24 v0 rfl rfl) h0
  obtain ⟨ap, nP, capP, rfl⟩ := okWide_slice Try.underlying57 (hval 1 57 v1 rfl rfl)
  obtain ⟨P, hnP, hcP⟩ : ∃ P, nP ≤ maxLen ∧ Came3 W ap nP P := by
    obtain ⟨fuel, hf⟩ := h1
    obtain ⟨ao', n', cap', P, e, hm, hc⟩ := came3_of_trod (c := .slice ap nP capP) hf
    simp only [Value.slice.injEq] at e
    obtain ⟨rfl, rfl, rfl⟩ := e
    exact ⟨P, hm, hc⟩
  clear hA0 hval0
  simp only [List.append_nil] at hW'
  have key : Calls Try.prog 7 #[.agg #[.int .i64 S, .slice ao n cap], .slice ap nP capP] W fun e w' => e = .returned (.bool true) ∧ Below W.heap.size W w' := by
    by_cases h : (n : Int) ≤ 1048576
    · by_cases hp : (nP : Int) ≤ 1048576 - n
      · exact truth_all S ao ap n cap nP capP F T P W h hp hc hcP
      · exact truth_great2 S ao ap n cap nP capP W hn hnP h hp
    · exact truth_great S ao ap n cap nP capP W hn h
  refine key.mono fun e W' ⟨he, hb⟩ => ?_
  subst he
  refine ⟨_, rfl, _, _, _, [], p0 ++ (p1 ++ []), [], hW', ?_, ?_, rfl, hb.frame _, fun h => by cases h⟩
  · exact trodAll_mk1 (shut_bool Try.underlying4 true)
  · exact trodAll_cons_mk (Below.trod Try.laidOut (by kernel_rfl) (of_decide_eq_true (by kernel_rfl)) h0 hb hl0) (trodAll_cons_mk (Below.trod Try.laidOut (by kernel_rfl) (of_decide_eq_true (by kernel_rfl)) h1 hb hl1) trodAll_mk0)

theorem fnExactTruth_holds : Rows.FnExactTruthSaid :=
  OpenClaim.holds_of_wide 7 Try.f7 rfl rfl rfl rfl rfl rfl rfl ⟨rfl, rfl, rfl, rfl, rfl⟩ rfl rfl rfl rfl rfl (by kernel_rfl) Try.func7 (by kernel_rfl)
    (of_decide_eq_true (by kernel_rfl)) (by unfold Func.isWrapper; first | (rw [if_pos (by decide +kernel)]; kernel_rfl) | (rw [if_neg (by decide +kernel)]; exact ⟨rfl, rfl⟩))
    (fun os started H enc _ => fnExactTruth_lifted os started H enc)

#print axioms fnExactTruth_holds

end Go.Proofs.Ytlpopfhaephfaab
