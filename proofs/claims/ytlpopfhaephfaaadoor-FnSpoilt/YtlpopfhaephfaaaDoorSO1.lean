import Derived.Test.YtlpopfhaephfaaaDoorCR
import Derived.Test.YtlpopfhaephfaaaDoorW6
import Derived.Test.YtlpopfhaephfaaaDoorST2
namespace Go.Proofs.YtlpopfhaephfaaaDoor
open Go.RowKit Go.Maps

/-- one of the counters around s is dead -/
def deadB (n : Nat) (F T : Nat → Int) (D : Nat → Bool) (s : Int) : Bool := (zsAt F T n s).any (fun z => D z.toNat)

/-- what is told of a section -/
def toldZ (dd : Bool) (x : Sec) : Int := if dd then 3 else if x.lost || (x.count != 0 && !x.sweep) then 1 else if x.sweep then 2 else 0

/-- a section's own numbers ask for Lost -/
def mustL (x : Sec) : Bool := decide (x.count < 0) || (x.sweep && x.count == 0 && x.last == -1)

def numOk (x : Sec) : Bool := decide (-1000000 ≤ x.count) && decide (x.count ≤ 1000000) && decide (-1 ≤ x.last) && decide (x.last ≤ 1)

def secOk (dd : Bool) (x : Sec) : Bool := numOk x && (x.told == toldZ dd x) && (x.lost || !(mustL x || dd))

def stOk (S : Int) (n : Nat) (F T : Nat → Int) (ok : Bool) (ns nd : Nat) (X : Nat → Sec) (D : Nat → Bool) : Bool :=
  (lokZ S n F T == 0) && ok && ((ns : Int) == S) && (nd == n) && (List.range ns).all (fun i => secOk (deadB n F T D (i : Int)) (X i))

def ints (zs : List Int) : Nat → Nat → Value := fun i _ => .int .i64 (zs.getD i 0)

theorem SlF.of_owns {w : World} {base : Nat} {v : Value} {zs : List Int} (h : w.ownsInts base 3 .i64 v zs) : SlF w 3 1 base w.heap.size v zs.length (ints zs) := by
  rcases h.1.2 with ⟨rfl, h0⟩ | ⟨g, cap, cur, rfl, hb, hh, hn, hm, hs, ht⟩
  · exact ⟨none, 0, by rw [h0], .inl h0⟩
  · have hlt : g < w.heap.size := (Array.getElem?_eq_some_iff.1 hh).1
    refine ⟨_, cap, rfl, .inr ⟨g, cap, fun i => cur.toList.getD i (.int .i64 0), rfl, hb, hlt, by omega, ⟨cur, hh, by simpa using hs, fun i hi => ?_⟩, fun i hi j hj => ?_⟩⟩
    · have : i < cur.size := by rw [hs]; omega
      simp [this]
    · have e : (cur.toList.take (zs.length * 1))[i]? = (zs.map (Value.int .i64))[i]? := by rw [ht]
      rw [List.getElem?_take_of_lt (by omega)] at e
      simp only [List.getElem?_map, List.getElem?_eq_getElem hi, Option.map_some] at e
      have hj0 : j = 0 := by omega
      subst hj0
      simp [ints, List.getD, e, List.getElem?_eq_getElem hi]

theorem zs_mem {F T : Nat → Int} {n : Nat} {s z : Int} (h : z ∈ zsAt F T n s) : ∃ m : Nat, m < n ∧ z = (m : Int) := by
  unfold zsAt at h
  simp only [List.mem_map, List.mem_filter, List.mem_range] at h
  obtain ⟨m, ⟨h1, _⟩, h2⟩ := h
  exact ⟨m, h1, h2.symm⟩

theorem zs_get {F T : Nat → Int} {n : Nat} {s : Int} {k : Nat} (h : k < (zsAt F T n s).length) : ∃ m : Nat, m < n ∧ (zsAt F T n s).getD k 0 = (m : Int) := by
  have : (zsAt F T n s).getD k 0 ∈ zsAt F T n s := by
    rw [List.getD_eq_getElem?_getD, List.getElem?_eq_getElem h]; exact List.getElem_mem h
  exact zs_mem this

theorem dead_yes {F T : Nat → Int} {n : Nat} {s : Int} {D : Nat → Bool} {k m : Nat} (h : k < (zsAt F T n s).length) (hm : (zsAt F T n s).getD k 0 = (m : Int)) (hd : D m = true) : deadB n F T D s = true := by
  unfold deadB
  refine List.any_eq_true.2 ⟨(zsAt F T n s).getD k 0, ?_, by rw [hm]; simpa using hd⟩
  rw [List.getD_eq_getElem?_getD, List.getElem?_eq_getElem h]; exact List.getElem_mem h

theorem dead_no {F T : Nat → Int} {n : Nat} {s : Int} {D : Nat → Bool} (h : ∀ k, k < (zsAt F T n s).length → D ((zsAt F T n s).getD k 0).toNat = false) : deadB n F T D s = false := by
  unfold deadB
  rw [List.any_eq_false]
  intro z hz
  obtain ⟨k, hk, rfl⟩ := List.mem_iff_getElem.1 hz
  have := h k hk
  rw [List.getD_eq_getElem?_getD, List.getElem?_eq_getElem hk] at this
  simpa using this

theorem oneI {w : World} {g e m n k : Nat} {f : Nat → Value} {zs : List Int} (h : Blk w g e m f) (hm : n * 1 ≤ m) (hk : k < n) (hf : ∀ i, i < n → ∀ j, j < 1 → f (i * 1 + j) = ints zs i j) : w.cell? ⟨g, k, none⟩ = some (.int .i64 (zs.getD k 0)) := by
  rw [h.cell (by omega)]
  have := hf k hk 0 (by omega)
  simp only [Nat.mul_one, Nat.add_zero] at this
  rw [this]; rfl

theorem told_dead {x : Sec} : toldZ true x = 3 := rfl
theorem told_lost {x : Sec} (h : x.lost = true) : toldZ false x = 1 := by simp [toldZ, h]
theorem told_occ {x : Sec} (h : x.lost = false) (h1 : x.count ≠ 0) (h2 : x.sweep = false) : toldZ false x = 1 := by simp [toldZ, h, h1, h2]
theorem told_sw {x : Sec} (h : x.lost = false) (h2 : x.sweep = true) : toldZ false x = 2 := by simp [toldZ, h, h2]
theorem told_free {x : Sec} (h : x.lost = false) (h1 : x.count = 0) (h2 : x.sweep = false) : toldZ false x = 0 := by simp [toldZ, h, h1, h2]

end Go.Proofs.YtlpopfhaephfaaaDoor
