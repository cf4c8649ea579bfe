import Derived.Test.YtlpopfhaephfaaaH1
import Derived.Test.YtlpopfhaephfaaaP1
import Derived.Lib.QuietBelow
namespace Go.Proofs.Ytlpopfhaephfaaa
open Go.RowKit Go.Sort

def prevZ (Z : Nat → Int) (i : Nat) : Int := if i = 0 then 0 else Z (i - 1)
def okAt (Z : Nat → Int) (i : Nat) : Prop := prevZ Z i ≤ Z i ∧ Z i ≤ 1000000
/-- places that ascend in 0 .. 1000000 -/
def Asc (n : Nat) (Z : Nat → Int) : Prop := ∀ i, i < n → okAt Z i

theorem Asc.bound {n : Nat} {Z : Nat → Int} (h : Asc n Z) : ∀ i, i < n → 0 ≤ Z i ∧ Z i ≤ 1000000 := by
  intro i
  induction i with
  | zero => intro hi; have := h 0 hi; unfold okAt prevZ at this; simp at this; omega
  | succ i ih =>
    intro hi
    have h1 := h (i + 1) hi
    have h2 := ih (by omega)
    unfold okAt prevZ at h1
    simp at h1
    omega

theorem Asc.mono {n : Nat} {Z : Nat → Int} (h : Asc n Z) : ∀ i j, i ≤ j → j < n → Z i ≤ Z j := by
  intro i j hij hj
  induction j with
  | zero => have : i = 0 := by omega
            subst this; exact Int.le_refl _
  | succ j ih =>
    rcases Nat.lt_or_ge i (j + 1) with h1 | h1
    · have h2 := h (j + 1) hj
      have h3 := ih (by omega) (by omega)
      unfold okAt prevZ at h2
      simp at h2
      omega
    · have : i = j + 1 := by omega
      subst this; exact Int.le_refl _

theorem prev_succ (Z : Nat → Int) (k : Nat) : prevZ Z (k + 1) = Z k := by simp [prevZ]

open Classical in
/-- ascend, at a slice in a block -/
theorem ascend_some (g m n cap : Nat) (f : Nat → Value) (Z : Nat → Int) (w : World) (hn : n ≤ 1048576) (h1 : Blk w g 3 m f) (h2 : n ≤ m) (h3 : ∀ i, i < n → f i = .int .i64 (Z i)) :
    Calls Try.prog 106 #[.slice (some ⟨g, 0, none⟩) n cap] w fun e w' => e = .returned (.bool (decide (Asc n Z))) ∧ Below w.heap.size w w' := by
  go_enter Try.func106, Try.ntmps106
  go_wp2
  go_loopw [3, 8] (fun q i wr => ∃ k : Nat, k ≤ n ∧ i = .int .i64 k ∧ q = .int .i64 (prevZ Z k) ∧ Below w.heap.size w wr ∧ ∀ i, i < k → okAt Z i) (fun _ i _ => n - (intOf i).toNat)
  case atStart => exact ⟨0, Nat.zero_le _, rfl, rfl, Below.refl _ _, fun i hi => by omega⟩
  case round =>
    obtain ⟨k, hk, rfl, rfl, hbel, hgood⟩ := hrel
    have HG : Hid (∀ i, i < k → okAt Z i) := hgood
    clear hgood
    by_cases hlt : k < n
    · have c0 : wr.cell? ⟨g, k, none⟩ = some (.int .i64 (Z k)) := by rw [(h1.below hbel h1.lt).cell (by omega), h3 k hlt]
      obtain ⟨q, hq⟩ : ∃ q, prevZ Z k = q := ⟨_, rfl⟩
      obtain ⟨x, hx⟩ : ∃ x, Z k = x := ⟨_, rfl⟩
      have HQ : Hid (prevZ Z k = q) := hq
      have HX : Hid (Z k = x) := hx
      have HS : Hid (prevZ Z (k + 1) = x) := by show prevZ Z (k + 1) = x; rw [prev_succ]; exact hx
      rw [hx] at c0
      rw [hq]
      clear h1 h3 hq hx
      rcases (show x < q ∨ (q ≤ x ∧ 1000000 < x) ∨ (q ≤ x ∧ x ≤ 1000000) by omega) with a1 | ⟨a1, a2⟩ | ⟨a1, a2⟩
      iterate 2
        · have HN : Hid (decide (Asc n Z) = false) := by
            refine decide_eq_false fun hA => ?_
            have := hA k hlt
            unfold okAt at this
            rw [HQ.out, HX.out] at this
            omega
          go_wp2
          go_ret
          exact ⟨by rw [HN.out]; rfl, hbel⟩
      · go_wp2
        go_roundw
        case rel =>
          refine ⟨k + 1, by omega, by go_num, by rw [HS.out], hbel, fun i hi => ?_⟩
          rcases (show i < k ∨ i = k by omega) with h' | rfl
          · exact HG.out i h'
          · unfold okAt; rw [HQ.out, HX.out]; exact ⟨a1, a2⟩
        case measure => simp [intOf]; omega
    · have HN : Hid (decide (Asc n Z) = true) := decide_eq_true fun i hi => HG.out i (by omega)
      go_wp2
      go_ret
      exact ⟨by rw [HN.out]; rfl, hbel⟩

end Go.Proofs.Ytlpopfhaephfaaa
