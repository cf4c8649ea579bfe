import Derived.Test.YtlpopfhaephfaabDoorTS1
import Derived.Maps.OwnOps
namespace Go.Proofs.YtlpopfhaephfaabDoor
open Go.RowKit Go.Maps

/-- Block b is a map of at most n entries that knows just the words of f. -/
def KnowsN (w : World) (b n : Nat) (f : List UInt8 → Option Int) : Prop :=
  ∃ D, w.ownsMap Tryd.prog 9 (plainElem (H := Unit) Tryd.prog 3) b n D ∧ ∀ s, Maps.has D (.string s) = (f s).isSome ∧ ∀ c, f s = some c → D.atKey (.string s) (.lit (.int .i64 0)) = .lit (.int .i64 c)

theorem KnowsN.knows {w : World} {b n : Nat} {f f' : List UInt8 → Option Int} (h : KnowsN w b n f) (hn : n ≤ 5) (hf : ∀ s, f s = f' s) : Knows w b f' := by
  obtain ⟨D, h1, h2⟩ := h
  exact ⟨n, D, hn, h1, fun s => by rw [← hf s]; exact h2 s⟩

theorem knowsN_made (w : World) : KnowsN (w.alloc (.map #[] 0)) w.heap.size 0 (fun _ => none) :=
  ⟨_, World.ownsMap_made _ _ _ _, fun s => ⟨rfl, fun c hc => by cases hc⟩⟩

theorem knowsN_put {w' : World} {b n : Nat} {D : DataW Unit} {f : List UInt8 → Option Int} {s0 : List UInt8} {c0 : Int} (hD : IsMap D)
    (h2 : ∀ s, Maps.has D (.string s) = (f s).isSome ∧ ∀ c, f s = some c → D.atKey (.string s) (.lit (.int .i64 0)) = .lit (.int .i64 c))
    (ho : w'.ownsMap Tryd.prog 9 (plainElem (H := Unit) Tryd.prog 3) b (n + 1) (D.put (.string s0) (.lit (.int .i64 c0)))) {f' : List UInt8 → Option Int} (hf : ∀ s, f' s = if s = s0 then some c0 else f s) : KnowsN w' b (n + 1) f' := by
  have hkl : ∀ {s : List UInt8}, WideAt.IsKeyLit (.string s) := by intro s; exact trivial
  refine ⟨_, ho, fun s => ?_⟩
  rw [hf s]
  by_cases h : s = s0
  · subst h
    rw [if_pos rfl]
    exact ⟨has_put_same hD hkl _, fun c hc => by injection hc with hc; rw [← hc]; exact atKey_put_same hD hkl _ _⟩
  · rw [if_neg h]
    have hne : (Lit.string s) ≠ .string s0 := fun e => h (by injection e)
    rw [has_put_other hne]
    exact ⟨(h2 s).1, fun c hc => by rw [atKey_put_other hne]; exact (h2 s).2 c hc⟩

theorem keyS (s : List UInt8) (hs : s.length ≤ 20000) : keyOf Tryd.prog 9 (.string ⟨s.toArray⟩) = some (.string s) := by
  rw [WideMaps.keyOf_string_mk Tryd.underlying9 (by rw [str_size]; unfold maxLen; omega)]

set_option maxRecDepth 100000 in
theorem opsByWord_any (w : World) (hL : Lay w) : Calls Tryd.prog 59 #[] w fun e w' => e = .returned (.map (some w.heap.size)) ∧ Knows w' w.heap.size opB ∧ Below w.heap.size w w' := by
  have hmm := @run_makeMap Tryd.prog
  have I0 := knowsN_made w
  have B0 : Below w.heap.size w (w.alloc (.map #[] 0)) := below_alloc (Below.refl _ _) _
  go_enter Tryd.func59, Tryd.ntmps59
  go_wp2
  go_loopw [2] (fun i wr => ∃ k : Nat, k ≤ 5 ∧ i = .int .i64 ((k : Int) + 1) ∧ KnowsN wr w.heap.size k (opsTo k) ∧ Below w.heap.size w wr) (fun i _ => 6 - (intOf i).toNat)
  case atStart => exact ⟨0, by omega, rfl, by rw [show opsTo 0 = fun _ => none from by funext s; simp [opsTo]]; exact I0, B0⟩
  case round =>
    clear I0 B0
    obtain ⟨k, hk, rfl, ⟨D, ho, h2⟩, Bw⟩ := hrel
    by_cases hlt : k < 5
    · have hi1 : (k : Int) + 1 ≤ 5 := by omega
      have hw := (hL.on Bw).words (k + 1) (by omega)
      obtain ⟨wb, hwb⟩ : ∃ wb, wordB ((k + 1 : Nat) : Int) = wb := ⟨_, rfl⟩
      have lw : wb.length ≤ 5 := by rw [← hwb]; exact wordB_length _
      rw [hwb] at hw
      have hkey := keyS wb (by omega)
      have hs : ∀ s, opsTo (k + 1) s = if s = wb then some ((k : Int) + 1) else opsTo k s := by
        intro s
        rw [← hwb]
        exact opsTo_step hlt s
      have HS : Hid _ := hs
      have H2 : Hid _ := h2
      have hD := ho.isMap
      clear hwb hs h2
      go_wp2_with (at_mapUpdate; refine wpList_mapUpdate_own _ rfl _ _ _ 105 rfl 9 3 law9 Tryd.underlying105 _ w.heap.size k D rfl ho (by unfold maxLen; omega) _ _ _ rfl rfl hkey _ [] (plainElem_int Tryd.underlying3 (WalkArith.wf_i64 (by omega))) ?_; intro w1 hown1 hgrow1)
      have K1 : KnowsN w1 w.heap.size (k + 1) (opsTo (k + 1)) := knowsN_put hD H2.out hown1 HS.out
      have B1 : Below w.heap.size w w1 := Bw.grown hgrow1 Bw.size (fun j hj => by cases hj; exact Nat.le_refl _)
      clear hown1 hgrow1 ho
      go_wp2
      exact ⟨⟨k + 1, hlt, by simp, K1, B1⟩, by simp [intOf]; omega⟩
    · have hi1 : ¬ (k : Int) + 1 ≤ 5 := by omega
      obtain rfl : k = 5 := by omega
      have K1 : Knows wr w.heap.size opB := KnowsN.knows ⟨D, ho, h2⟩ (Nat.le_refl _) opsTo_all
      clear ho h2
      go_wp2
      go_ret
      exact ⟨rfl, K1, Bw⟩

theorem dirs_two (s : List UInt8) : dirB s = if s = [45] then some (-1) else if s = [43] then some 1 else none := by
  unfold dirB
  by_cases h1 : s = [43]
  · subst h1; decide
  · simp [h1]

set_option maxRecDepth 100000 in
theorem dirsBySign_any (w : World) : Calls Tryd.prog 60 #[] w fun e w' => e = .returned (.map (some w.heap.size)) ∧ Knows w' w.heap.size dirB ∧ Below w.heap.size w w' := by
  have hmm := @run_makeMap Tryd.prog
  have B0 : Below w.heap.size w (w.alloc (.map #[] 0)) := below_alloc (Below.refl _ _) _
  obtain ⟨D0, o0, h0⟩ := knowsN_made w
  obtain ⟨w1, r1, o1, g1⟩ := o0.update law9 Tryd.underlying105 (by unfold maxLen; omega) (key := .string ⟨[43].toArray⟩) (val := .int .i64 1) (keyS [43] (by simp)) (plainElem_int Tryd.underlying3 (WalkArith.wf_i64 (by omega)))
  obtain ⟨w2, r2, o2, g2⟩ := o1.update law9 Tryd.underlying105 (by unfold maxLen; omega) (key := .string ⟨[45].toArray⟩) (val := .int .i64 (-1)) (keyS [45] (by simp)) (plainElem_int Tryd.underlying3 (WalkArith.wf_i64 (by omega)))
  have K1 : KnowsN w1 w.heap.size 1 (fun s => if s = [43] then some 1 else none) := knowsN_put o0.isMap h0 o1 (fun s => rfl)
  have B1 : Below w.heap.size w w1 := B0.grown g1 B0.size (fun j hj => by cases hj; exact Nat.le_refl _)
  have B2 : Below w.heap.size w w2 := B1.grown g2 B1.size (fun j hj => by cases hj; exact Nat.le_refl _)
  have K2 : Knows w2 w.heap.size dirB := by
    have hp : ∀ s, Maps.has (D0.put (.string [43]) (.lit (.int .i64 1))) (.string s) = ((fun s => if s = [43] then some (1 : Int) else none) s).isSome ∧ ∀ c, (fun s => if s = [43] then some (1 : Int) else none) s = some c → (D0.put (.string [43]) (.lit (.int .i64 1))).atKey (.string s) (.lit (.int .i64 0)) = .lit (.int .i64 c) := by
      have hkl : ∀ {s : List UInt8}, WideAt.IsKeyLit (.string s) := by intro s; exact trivial
      intro s
      by_cases h : s = [43]
      · subst h
        exact ⟨has_put_same o0.isMap hkl _, fun c hc => by simp at hc; rw [← hc]; exact atKey_put_same o0.isMap hkl _ _⟩
      · have hne : (Lit.string s) ≠ .string [43] := fun e => h (by injection e)
        rw [has_put_other hne]
        simp only [if_neg h]
        exact ⟨(h0 s).1, fun c hc => by cases hc⟩
    exact KnowsN.knows (knowsN_put o1.isMap hp o2 (fun s => rfl)) (by omega) (fun s => (dirs_two s).symm)
  clear K1 B1 o1 o2 g1 g2 o0 h0 B0
  go_enter Tryd.func60, Tryd.ntmps60
  go_wp2
  go_ret
  exact ⟨rfl, K2, B2⟩

end Go.Proofs.YtlpopfhaephfaabDoor
