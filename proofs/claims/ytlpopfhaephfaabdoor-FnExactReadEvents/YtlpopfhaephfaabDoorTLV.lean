import Derived.Lib.LaidTab
import Derived.LaidLaws
import Derived.Stop.LaidErr
import Derived.Test.YtlpopfhaephfaabDoorTX5
import Derived.Test.YtlpopfhaephfaabDoorRows
namespace Go.Proofs.YtlpopfhaephfaabDoor
open Go.RowKit

/-- An array of strings that reads as a list of texts holds them, cell for cell. -/
theorem cells_of_strs {H : Type} {enc : TypeId × Value → H} {P : Program} {w : World} {base : Nat} {sp : Nat → Bool} {held : Bool} {fuel : Nat} {t e : TypeId} {n : Nat} {cs : List Value} {ss : List (List UInt8)} {p : List MemPlace}
    (ht : P.underlying t = some (.array n e)) (he : P.underlying e = some .string) (hce : P.cellsOf e = 1) (hct : P.cellsOf t = n)
    (h : DataW.trod enc P w base sp held fuel t cs = some (.agg (ss.map fun s => .lit (.string s)), p)) : cs = ss.map fun s => Value.string ⟨s.toArray⟩ := by
  cases fuel with
  | zero => simp [DataW.trod] at h
  | succ fuel =>
    simp only [DataW.trod, ht, hce, hct, Nat.mul_one] at h
    split at h
    · obtain ⟨xs, hm, hx⟩ := Option.map_eq_some_iff.1 h
      have hxs : xs.map (·.1) = ss.map fun s => (DataW.lit (.string s) : DataW H) := by
        have := congrArg Prod.fst hx
        simpa using this
      have hxl : xs.length = n := by simpa using Lib.mapM_length hm
      have hzl : ss.length = n := by
        have := congrArg List.length hxs
        simp at this
        omega
      apply List.ext_getElem?
      intro i
      by_cases hi : i < n
      · obtain ⟨b, hb, hf⟩ := Lib.mapM_at hm i i (by simp [hi])
        obtain ⟨s, hc, rfl, _⟩ := DataW.trod_string he hf
        have h1 : cs[i]? = some (.string s) := by
          have := congrArg (·[0]?) hc
          simpa [List.getElem?_take, List.getElem?_drop] using this
        have h2 : (xs.map (·.1))[i]? = some (DataW.lit (.string s.data.toList) : DataW H) := by simp [hb]
        rw [hxs] at h2
        simp only [List.getElem?_map, Option.map_eq_some_iff, DataW.lit.injEq, Lit.string.injEq] at h2
        obtain ⟨z', hz', e1⟩ := h2
        rw [h1, List.getElem?_map, hz', e1]
        rfl
      · rw [List.getElem?_eq_none (by omega), List.getElem?_eq_none (by simp; omega)]
    · cases h

theorem Tryd.gWords : Tryd.prog.globalNamed "loop.example/treadle/impl.words" = some 4 := by kernel_rfl

/-- The words and the powers of ten, as they are laid. -/
theorem lay_of_laid {W : World} {r1 r2 : List (String × DataW Unit)} (h1 : laidMet Tryd.prog (("internal/strconv.uint64pow10", Rows.laid_internal_strconv_uint64pow10) :: r1) W) (h2 : laidMet Tryd.prog (("loop.example/treadle/impl.words", Rows.laid_loop_example_treadle_impl_words) :: r2) W) : Lay W := by
  refine ⟨?_, Lib.tabIs_of_head (k := .u64) (zs := Lib.pow10Tab) (rest := r1) Tryd.gPow (t := 162) (by kernel_rfl) Tryd.underlying162 Tryd.underlying152 (by kernel_rfl) (by kernel_rfl) h1⟩
  obtain ⟨ps, ⟨g', t', cs, fuel, p, q, hg', ht', hvar, hd, _, _⟩, _⟩ := h2
  obtain rfl := Option.some.inj (Tryd.gWords.symm.trans hg')
  obtain rfl : t' = 99 := Option.some.inj (ht'.symm.trans (by kernel_rfl))
  have hc := cells_of_strs (ss := [[], [112, 97, 115, 115], [103, 104, 111, 115, 116], [100, 101, 97, 100], [97, 108, 105, 118, 101], [114, 101, 115, 101, 116]]) Tryd.underlying99 Tryd.underlying9 (by kernel_rfl) (by kernel_rfl) hd
  intro i hi
  have := World.var?_cell Tryd.gWords hvar i
  rw [this, ← Array.getElem?_toList, hc]
  rcases (show i = 0 ∨ i = 1 ∨ i = 2 ∨ i = 3 ∨ i = 4 ∨ i = 5 by omega) with rfl | rfl | rfl | rfl | rfl | rfl <;> rfl

end Go.Proofs.YtlpopfhaephfaabDoor
