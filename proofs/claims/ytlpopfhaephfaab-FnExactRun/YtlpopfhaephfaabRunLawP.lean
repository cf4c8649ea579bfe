import Derived.Test.YtlpopfhaephfaabRunLaw
import Derived.Test.YtlpopfhaephfaabRN5
import Derived.Test.YtlpopfhaephfaabRN6
import Derived.Test.YtlpopfhaephfaabOpen3
namespace Go.Proofs.Ytlpopfhaephfaab
open Go.ChangeShapes Go.WideShapes Go.ChangeAt Go.RowKit Go.Joins

/-- both Runs answer alike -/
theorem runs (S : Int) (n : Nat) (F T : Nat → Int) (m : Nat) (P : Nat → Nat → Int) (hm : m ≤ 1048576) : ∃ (m' ns' nd' : Nat) (C : Nat → Int) (B : Nat → Bool) (X : Nat → Nat → Sec) (D : Nat → Nat → Bool), m' ≤ 2000 ∧ ns' ≤ 60 ∧ nd' ≤ 120 ∧
    AnsC 28 S n F T m P (fun W lo hi v => DnF W lo hi v m' ns' nd' C B X D) ∧ AnsC 30 S n F T m P (fun W lo hi v => DnF W lo hi v m' ns' nd' C B X D) := by
  by_cases hok : lokZ S n F T = 0 ∧ m ≤ 2000
  · obtain ⟨hl, hm2⟩ := hok
    obtain ⟨r1, r2, r3⟩ := lok_range hl
    obtain ⟨ns, hS⟩ : ∃ ns : Nat, (ns : Int) = S := ⟨S.toNat, by omega⟩
    exact ⟨m, ns, n, _, _, _, _, hm2, by omega, r3, fun g le he ve W hr hv => specRun_ok S g n le he m ns F T P ve W hr hv hl hS hm2, fun g le he ve W hr hv => implRun_ok S g n le he m ns F T P ve W hr hv hl hS hm2⟩
  · refine ⟨0, 0, 0, fun _ => 0, fun _ => true, fun _ _ => sec0, fun _ _ => false, by omega, by omega, by omega, fun g le he ve W hr hv => ?_, fun g le he ve W hr hv => ?_⟩
    · obtain ⟨ae, ce, rfl, _⟩ := hv
      exact (specRun_bad S g n m ce ae F T W hm hr hok).mono fun e w' ⟨h1, h2⟩ => ⟨_, h1, DnF.nil _ _ _ _ _ _ _ h2.size _ _ _ _, h2⟩
    · obtain ⟨ae, ce, rfl, _⟩ := hv
      exact (implRun_bad S g n m ce ae F T W hm hr hok).mono fun e w' ⟨h1, h2⟩ => ⟨_, h1, DnF.nil _ _ _ _ _ _ _ h2.size _ _ _ _, h2⟩

theorem run_all (S : Int) (ao ae : Option Addr) (n cap m ce : Nat) (F T : Nat → Int) (P : Nat → Nat → Int) (w : World) (hn : (n : Int) ≤ 1048576) (hz : (m : Int) ≤ 1048576 - n) (h : Came w ao n F T) (hE : Came3 w ae m P) :
    Calls Try.prog 6 #[.agg #[.int .i64 S, .slice ao n cap], .slice ae m ce] w fun e w' => e = .returned (.bool true) ∧ Below w.heap.size w w' := by
  obtain ⟨m', ns', nd', C, B, X, D, h1, h2, h3, cS, cI⟩ := runs S n F T m P (by omega)
  have hb := fun k => mkQ_bound (q0 := 1) (k := k) h2 h3 (by omega)
  refine run_small S ao ae n cap m ce F T P w hn hz h hE _ (fun W lo hi v => MkD W lo hi v m' ns' nd' 1) (mkQ 1 ns' nd' m') (hb m').1 ⟨fun a b => a.on b, fun a b c => a.turned b (.inr c), fun a b => DnF.on a b⟩ cS cI ?_ ?_ ?_
  · intro W lo hi lo' hi' v v' a b
    exact eqDoneS_same lo hi lo' hi' m' ns' nd' v v' C B X D W (by omega) (by omega) (by omega) a b
  · intro W lo hi v hlh a
    exact (markDoneS_any lo hi m' ns' nd' v 1 C B X D W h1 h2 h3 (by omega) (by omega) hlh a).mono fun e w' ⟨x, y, z⟩ => ⟨x, y, _, z⟩
  · intro W lo hi v a
    exact heldDoneS_any lo hi m' ns' nd' v 1 W h1 h2 h3 (by omega) (by omega) a

set_option maxRecDepth 100000 in
theorem fnExactRun_lifted (os : Os) (started : os.Started) (H : Type) (enc : TypeId × Value → H) :
    ReturnsInHanded {} Try.checked os 6 .any (Rows.fnExactRunSpec.pre6 enc Try.prog Try.f6 Rows.fnExactRunRow.domain false) (Rows.fnExactRunSpec.post enc Try.prog Try.f6 false true false false) := by
  refine returnsInHanded_of_change (C := Try.checked) Try.own started (by kernel_rfl) Try.func6
    (ChangeSpec.witness6 (enc := enc) (C := Try.checked) false ⟨#[], #[.agg #[.int .i64 0, .slice none 0 0], .slice none 0 0], []⟩ 8 (by kernel_rfl) (by kernel_rfl) (by kernel_rfl) (by kernel_rfl)) ?_
  intro W base args ds gs before hval0 hW hcnd _
  have hval : ∀ (j : Nat) t v, Try.f6.params[j]? = some t → args[j]? = some v → Value.okWide Try.prog W .any base t v := hval0
  have hW' := hW
  obtain ⟨p, q, hA0, hV, rfl, hfz, hnd⟩ := hW
  have hA : DataW.TrodAll enc Try.prog W 0 (fun _ => true) true Try.f6.params.toList args.toList ds p := hA0
  rw [Try.params6] at hA hval
  obtain ⟨v0, vs0, d0, ds0, p0, q0, hargs, rfl, rfl, h0, r0⟩ := trodAll_cons hA
  obtain ⟨v1, vs1, d1, ds1, p1, q1, rfl, rfl, rfl, h1, r1⟩ := trodAll_cons r0
  obtain ⟨rfl, rfl, rfl⟩ := trodAll_nil r1
  obtain rfl : args = #[v0, v1] := by rw [← Array.toList_inj]; exact hargs
  obtain ⟨rfl, rfl⟩ := trodVars_none hV
  have hl0 : ∀ x ∈ p0, x.block < W.heap.size := fun x hx => by simpa using hW'.lt x (by simp [hx])
  have hl1 : ∀ x ∈ p1, x.block < W.heap.size := fun x hx => by simpa using hW'.lt x (by simp [hx])
  obtain ⟨S, ao, n, cap, F, T, rfl, hn, hc, _⟩ := open_layout (hval 0 24 v0 rfl rfl) h0
  obtain ⟨ap, nP, capP, rfl⟩ := okWide_slice Try.underlying57 (hval 1 57 v1 rfl rfl)
  obtain ⟨P, hnP, hcP⟩ : ∃ P, nP ≤ maxLen ∧ Came3 W ap nP P := by
    obtain ⟨fuel, hf⟩ := h1
    obtain ⟨ao', n', cap', P, e, hm, hc⟩ := came3_of_trod (c := .slice ap nP capP) hf
    simp only [Value.slice.injEq] at e
    obtain ⟨rfl, rfl, rfl⟩ := e
    exact ⟨P, hm, hc⟩
  clear hA0 hval0
  simp only [List.append_nil] at hW'
  have key : Calls Try.prog 6 #[.agg #[.int .i64 S, .slice ao n cap], .slice ap nP capP] W fun e w' => e = .returned (.bool true) ∧ Below W.heap.size W w' := by
    by_cases h : (n : Int) ≤ 1048576
    · by_cases hp : (nP : Int) ≤ 1048576 - n
      · exact run_all S ao ap n cap nP capP F T P W h hp hc hcP
      · exact run_great2 S ao ap n cap nP capP W hn hnP h hp
    · exact run_great S ao ap n cap nP capP W hn h
  refine key.mono fun e W' ⟨he, hb⟩ => ?_
  subst he
  refine ⟨_, rfl, _, _, _, [], p0 ++ (p1 ++ []), [], hW', ?_, ?_, rfl, hb.frame _, fun h => by cases h⟩
  · exact trodAll_mk1 (shut_bool Try.underlying4 true)
  · exact trodAll_cons_mk (Below.trod Try.laidOut (by kernel_rfl) (of_decide_eq_true (by kernel_rfl)) h0 hb hl0) (trodAll_cons_mk (Below.trod Try.laidOut (by kernel_rfl) (of_decide_eq_true (by kernel_rfl)) h1 hb hl1) trodAll_mk0)

theorem fnExactRun_holds : Rows.FnExactRunSaid :=
  OpenClaim.holds_of_wide 6 Try.f6 rfl rfl rfl rfl rfl rfl rfl ⟨rfl, rfl, rfl, rfl, rfl⟩ rfl rfl rfl rfl rfl (by kernel_rfl) Try.func6 (by kernel_rfl)
    (of_decide_eq_true (by kernel_rfl)) (by unfold Func.isWrapper; first | (rw [if_pos (by decide +kernel)]; kernel_rfl) | (rw [if_neg (by decide +kernel)]; exact ⟨rfl, rfl⟩))
    (fun os started H enc _ => fnExactRun_lifted os started H enc)

#print axioms fnExactRun_holds

end Go.Proofs.Ytlpopfhaephfaab
