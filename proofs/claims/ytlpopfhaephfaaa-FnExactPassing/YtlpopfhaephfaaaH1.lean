import Derived.Test.YtlpopfhaephfaaaMth
import Derived.Test.YtlpopfhaephfaaaGrp
import Derived.BigRegion
import Derived.BigQuiet
import Derived.Deep.QuietTactic
import Derived.Deep.RegionWith
import Derived.Deep.RegionLaw
namespace Go.Proofs.Ytlpopfhaephfaaa
open Go.RowKit

def fld (m : M3) (j : Nat) : Int := if j = 0 then m.f else if j = 1 then m.a else m.p
def cellL (L : List M3) (c : Nat) : Value := .int .i64 (fld (at3 L (c / 3)) (c % 3))
def flat (L : List M3) : List Value := (List.range (L.length * 3)).map (cellL L)

theorem flat_length (L : List M3) : (flat L).length = L.length * 3 := by simp [flat]

theorem at3_snoc_lt {L : List M3} {x : M3} {i : Nat} (h : i < L.length) : at3 (L ++ [x]) i = at3 L i := by unfold at3; simp [List.getElem?_append_left h]
theorem at3_snoc {L : List M3} {x : M3} : at3 (L ++ [x]) L.length = x := by unfold at3; simp

theorem flat_snoc (L : List M3) (x : M3) : flat (L ++ [x]) = flat L ++ [.int .i64 x.f, .int .i64 x.a, .int .i64 x.p] := by
  unfold flat
  have e : (L ++ [x]).length * 3 = L.length * 3 + 1 + 1 + 1 := by simp; omega
  rw [e, List.range_succ, List.range_succ, List.range_succ]
  simp only [List.map_append, List.map_cons, List.map_nil, List.append_assoc, List.cons_append, List.nil_append]
  congr 1
  · refine List.map_congr_left fun c hc => ?_
    have := List.mem_range.1 hc
    unfold cellL
    rw [at3_snoc_lt (by omega)]
  · unfold cellL
    rw [show L.length * 3 / 3 = L.length by omega, show (L.length * 3 + 1) / 3 = L.length by omega, show (L.length * 3 + 1 + 1) / 3 = L.length by omega, at3_snoc,
      show L.length * 3 % 3 = 0 by omega, show (L.length * 3 + 1) % 3 = 1 by omega, show (L.length * 3 + 1 + 1) % 3 = 2 by omega]
    rfl

/-- an owned row of triples, opened -/
theorem own_open {w : World} {base e : Nat} {v : Value} {L : List M3} (h : w.ownsRow base e 3 v L.length (flat L)) :
    (v = .slice none 0 0 ∧ L = []) ∨ ∃ g cap f, v = .slice (some ⟨g, 0, none⟩) L.length cap ∧ base ≤ g ∧ L.length ≤ cap ∧ cap ≤ maxLen ∧ Blk w g e (cap * 3) f ∧ ∀ c, c < L.length * 3 → f c = cellL L c := by
  obtain ⟨h1, ⟨h2, h3⟩ | ⟨g, cap, cur, hv, hb, hh, hn, hm, hs, ht⟩⟩ := h
  · exact .inl ⟨h2, List.length_eq_zero_iff.1 h3⟩
  · refine .inr ⟨g, cap, fun c => cur.toList.getD c (.int .i64 0), hv, hb, hn, hm, ⟨cur, hh, hs, fun i hi => ?_⟩, fun c hc => ?_⟩
    · have : i < cur.size := by rw [hs]; exact hi
      simp [this]
    · have e1 : (cur.toList.take (L.length * 3))[c]? = (flat L)[c]? := by rw [ht]
      rw [List.getElem?_take_of_lt hc] at e1
      have e2 : (flat L)[c]? = some (cellL L c) := by simp [flat, hc]
      simp [List.getD, e1, e2]

theorem own_shut {w : World} {base e g cap : Nat} {f : Nat → Value} {L : List M3} (hb : base ≤ g) (hn : L.length ≤ cap) (hm : cap ≤ maxLen) (hB : Blk w g e (cap * 3) f) (hf : ∀ c, c < L.length * 3 → f c = cellL L c) :
    w.ownsRow base e 3 (.slice (some ⟨g, 0, none⟩) L.length cap) L.length (flat L) := by
  obtain ⟨xs, h1, h2, h3⟩ := hB
  refine ⟨flat_length L, .inr ⟨g, cap, xs, rfl, hb, h1, hn, hm, h2, ?_⟩⟩
  apply List.ext_getElem?
  intro c
  by_cases hc : c < L.length * 3
  · rw [List.getElem?_take_of_lt hc]
    have hl : L.length * 3 ≤ cap * 3 := Nat.mul_le_mul_right 3 hn
    have e1 := h3 c (by omega)
    rw [hf c hc] at e1
    simp only [Array.getElem?_toList, e1]
    simp [flat, hc]
  · rw [List.getElem?_eq_none (by simp; omega), List.getElem?_eq_none (by rw [flat_length]; omega)]

theorem earlier_any (x y : M3) (w : World) (b : Bool) (hb : bef x y = b) :
    Calls Try.prog 107 #[.agg #[.int .i64 x.f, .int .i64 x.a, .int .i64 x.p], .agg #[.int .i64 y.f, .int .i64 y.a, .int .i64 y.p]] w fun e w' => e = .returned (.bool b) ∧ Below w.heap.size w w' := by
  obtain ⟨f, a, p⟩ := x
  obtain ⟨f', a', p'⟩ := y
  by_cases h : f = f'
  · subst h
    have e : decide (a < a') = b := by rw [← hb]; simp [bef]
    clear hb
    go_enter Try.func107, Try.ntmps107
    go_wp2
    go_ret
    exact ⟨by rw [← e]; rfl, (by repeat (first | exact Below.refl _ _ | assumption | refine below_alloc ?_ _ | refine Below.setCell ?_ (by first | omega | (simp; done) | (simp; omega)) _ | refine Below.alloc ?_ (by first | omega | (simp; done) | (simp; omega)) _ | refine Below.drew ?_))⟩
  · have e : decide (f < f') = b := by rw [← hb]; simp [bef, h]
    have h' : (f != f') = true := by simp [h]
    clear hb h
    go_enter Try.func107, Try.ntmps107
    go_wp2
    go_ret
    exact ⟨by rw [← e]; rfl, (by repeat (first | exact Below.refl _ _ | assumption | refine below_alloc ?_ _ | refine Below.setCell ?_ (by first | omega | (simp; done) | (simp; omega)) _ | refine Below.alloc ?_ (by first | omega | (simp; done) | (simp; omega)) _ | refine Below.drew ?_))⟩

/-- the cells of a heap's own struct -/
def hcell (v : Value) : Nat → Value := fun j => if j = 0 then v else .func (.func 107) #[] #[]

set_option maxHeartbeats 1000000 in
theorem swap_walk (hb g n cap m a b : Nat) (f : Nat → Value) (x y : M3) (w : World) (ha : a < n) (hb' : b < n) (hs : w.cell? ⟨hb, 0, none⟩ = some (.slice (some ⟨g, 0, none⟩) n cap)) (hB : Blk w g 111 m f) (hm : n * 3 ≤ m)
    (fa : ∀ j, j < 3 → f (a * 3 + j) = .int .i64 (fld x j)) (fb : ∀ j, j < 3 → f (b * 3 + j) = .int .i64 (fld y j)) :
    Calls Try.prog 108 #[.pointer (some ⟨hb, 0, none⟩), .int .i64 a, .int .i64 b] w fun e w' => e = .returned (.tuple #[]) ∧
      w' = ((((((w.setCell ⟨g, a * 3, none⟩ (.int .i64 y.f)).setCell ⟨g, a * 3 + 1, none⟩ (.int .i64 y.a)).setCell ⟨g, a * 3 + 2, none⟩ (.int .i64 y.p)).setCell ⟨g, b * 3, none⟩ (.int .i64 x.f)).setCell ⟨g, b * 3 + 1, none⟩ (.int .i64 x.a)).setCell ⟨g, b * 3 + 2, none⟩ (.int .i64 x.p)).drew := by
  have i1 : (a : Int) < (n : Int) := by omega
  have i2 : (b : Int) < (n : Int) := by omega
  have a0 : w.cell? ⟨g, a * 3, none⟩ = some (.int .i64 x.f) := by rw [hB.cell (by omega)]; exact congrArg some (fa 0 (by omega))
  have a1 : w.cell? ⟨g, a * 3 + 1, none⟩ = some (.int .i64 x.a) := by rw [hB.cell (by omega)]; exact congrArg some (fa 1 (by omega))
  have a2 : w.cell? ⟨g, a * 3 + 2, none⟩ = some (.int .i64 x.p) := by rw [hB.cell (by omega)]; exact congrArg some (fa 2 (by omega))
  have b0 : w.cell? ⟨g, b * 3, none⟩ = some (.int .i64 y.f) := by rw [hB.cell (by omega)]; exact congrArg some (fb 0 (by omega))
  have b1 : w.cell? ⟨g, b * 3 + 1, none⟩ = some (.int .i64 y.a) := by rw [hB.cell (by omega)]; exact congrArg some (fb 1 (by omega))
  have b2 : w.cell? ⟨g, b * 3 + 2, none⟩ = some (.int .i64 y.p) := by rw [hB.cell (by omega)]; exact congrArg some (fb 2 (by omega))
  have hfz := fun i => hB.frozen i
  have c0 : (w.setCell ⟨g, a * 3, none⟩ (.int .i64 y.f)).cell? ⟨g, b * 3, none⟩ = some (.int .i64 y.f) := by
    rw [(hB.set (a * 3) _).cell (by omega)]
    split
    · rfl
    · exact congrArg some (fb 0 (by omega))
  have c1 : ((w.setCell ⟨g, a * 3, none⟩ (.int .i64 y.f)).setCell ⟨g, a * 3 + 1, none⟩ (.int .i64 y.a)).cell? ⟨g, b * 3 + 1, none⟩ = some (.int .i64 y.a) := by
    rw [((hB.set (a * 3) _).set (a * 3 + 1) _).cell (by omega)]
    split
    · rfl
    · rw [if_neg (by omega)]; exact congrArg some (fb 1 (by omega))
  have c2 : (((w.setCell ⟨g, a * 3, none⟩ (.int .i64 y.f)).setCell ⟨g, a * 3 + 1, none⟩ (.int .i64 y.a)).setCell ⟨g, a * 3 + 2, none⟩ (.int .i64 y.p)).cell? ⟨g, b * 3 + 2, none⟩ = some (.int .i64 y.p) := by
    rw [(((hB.set (a * 3) _).set (a * 3 + 1) _).set (a * 3 + 2) _).cell (by omega)]
    split
    · rfl
    · rw [if_neg (by omega), if_neg (by omega)]; exact congrArg some (fb 2 (by omega))
  clear fa fb hB
  go_enter Try.func108, Try.ntmps108
  go_wp2
  go_region
  all_goals
    go_wp2
    go_end0
    exact ⟨rfl, rfl⟩

end Go.Proofs.Ytlpopfhaephfaaa
