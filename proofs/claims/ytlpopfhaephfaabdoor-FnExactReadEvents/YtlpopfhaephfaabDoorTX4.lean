import Derived.Maps.OwnSet
import Derived.Maps.Views
import Derived.Test.YtlpopfhaephfaabDoorTX1
namespace Go.Proofs.YtlpopfhaephfaabDoor
open Go.RowKit Go.Maps

/-! ## maps of words -/

/-- Block b is a map that knows just the words of f. -/
def Knows (w : World) (b : Nat) (f : List UInt8 → Option Int) : Prop :=
  ∃ n D, n ≤ 5 ∧ w.ownsMap Tryd.prog 9 (plainElem (H := Unit) Tryd.prog 3) b n D ∧ ∀ s, Maps.has D (.string s) = (f s).isSome ∧ ∀ c, f s = some c → D.atKey (.string s) (.lit (.int .i64 0)) = .lit (.int .i64 c)

theorem Knows.on {w w' : World} {b : Nat} {f : List UInt8 → Option Int} (h : Knows w b f) (hb : Below w.heap.size w w') : Knows w' b f := by
  obtain ⟨n, D, hn, ho, h2⟩ := h
  have hl := ho.lt
  obtain ⟨es, clock, h3, h4⟩ := ho
  exact ⟨n, D, hn, ⟨es, clock, (hb.block b hl).trans h3, h4⟩, h2⟩

theorem Knows.lt {w : World} {b : Nat} {f : List UInt8 → Option Int} (h : Knows w b f) : b < w.heap.size := by
  obtain ⟨n, D, hn, ho, h2⟩ := h
  exact ho.lt

/-- The words up to the k-th. -/
def opsTo (k : Nat) (w : List UInt8) : Option Int :=
  if w = [114, 101, 115, 101, 116] ∧ 5 ≤ k then some 5 else if w = [97, 108, 105, 118, 101] ∧ 4 ≤ k then some 4 else if w = [100, 101, 97, 100] ∧ 3 ≤ k then some 3
  else if w = [103, 104, 111, 115, 116] ∧ 2 ≤ k then some 2 else if w = [112, 97, 115, 115] ∧ 1 ≤ k then some 1 else none

theorem opsTo_all (w : List UInt8) : opsTo 5 w = opB w := by
  unfold opsTo opB
  by_cases h1 : w = [112, 97, 115, 115]
  · subst h1; decide
  · by_cases h2 : w = [103, 104, 111, 115, 116]
    · subst h2; decide
    · by_cases h3 : w = [100, 101, 97, 100]
      · subst h3; decide
      · by_cases h4 : w = [97, 108, 105, 118, 101]
        · subst h4; decide
        · simp [h1, h2, h3, h4]

theorem opsTo_step {k : Nat} (hk : k < 5) (w : List UInt8) : opsTo (k + 1) w = if w = wordB ((k : Int) + 1) then some ((k : Int) + 1) else opsTo k w := by
  unfold opsTo
  rcases (show k = 0 ∨ k = 1 ∨ k = 2 ∨ k = 3 ∨ k = 4 by omega) with rfl | rfl | rfl | rfl | rfl
  all_goals
    by_cases h1 : w = [112, 97, 115, 115]
    · subst h1; decide
    · by_cases h2 : w = [103, 104, 111, 115, 116]
      · subst h2; decide
      · by_cases h3 : w = [100, 101, 97, 100]
        · subst h3; decide
        · by_cases h4 : w = [97, 108, 105, 118, 101]
          · subst h4; decide
          · by_cases h5 : w = [114, 101, 115, 101, 116]
            · subst h5; decide
            · simp [h1, h2, h3, h4, h5, wordB]

/-- A map that knows one word more. -/
theorem knows_put {w' : World} {b n : Nat} {D : DataW Unit} {f : List UInt8 → Option Int} {s0 : List UInt8} {c0 : Int} (hn : n < 5) (hD : IsMap D)
    (h2 : ∀ s, Maps.has D (.string s) = (f s).isSome ∧ ∀ c, f s = some c → D.atKey (.string s) (.lit (.int .i64 0)) = .lit (.int .i64 c))
    (ho : w'.ownsMap Tryd.prog 9 (plainElem (H := Unit) Tryd.prog 3) b (n + 1) (D.put (.string s0) (.lit (.int .i64 c0)))) {f' : List UInt8 → Option Int} (hf : ∀ s, f' s = if s = s0 then some c0 else f s) : Knows w' b f' := by
  have hkl : ∀ {s : List UInt8}, WideAt.IsKeyLit (.string s) := by intro s; first | exact trivial | simp [WideAt.IsKeyLit]
  refine ⟨n + 1, _, hn, ho, fun s => ?_⟩
  rw [hf s]
  by_cases h : s = s0
  · subst h
    rw [if_pos rfl]
    exact ⟨has_put_same hD hkl _, fun c hc => by injection hc with hc; rw [← hc]; exact atKey_put_same hD hkl _ _⟩
  · rw [if_neg h]
    have hne : (Lit.string s) ≠ .string s0 := fun e => h (by injection e)
    rw [has_put_other hne]
    exact ⟨(h2 s).1, fun c hc => by rw [atKey_put_other hne]; exact (h2 s).2 c hc⟩

end Go.Proofs.YtlpopfhaephfaabDoor
